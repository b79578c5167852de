/- Null-strict nodes that compare, and NOT. -/
import Derived.Test.YtdbhencjomnjhaaGreatDoorGae
import Derived.Test.YtdbhencjomnjhaaGreatDoorGaa
import Derived.Deep.Cut
namespace Go.Proofs.YtdbhencjomnjhaaGreatDoor.T
open Go.ChangeShapes Go.WideShapes Go.ChangeAt Go.RowKit Go.Proofs.YtdbhencjomnjhaaGreatDoor.V Go.Proofs.YtdbhencjomnjhaaGreatDoor.K
def cmpB (op x : Int) : Bool := if op = 12 then decide (x = 0) else if op = 13 then decide (x ≠ 0) else if op = 14 then decide (x < 0) else if op = 15 then decide (x ≤ 0) else if op = 16 then decide (x > 0) else decide (x ≥ 0)
set_option maxRecDepth 100000 in
set_option maxHeartbeats 2000000 in
theorem ns_12 (k n : Int) (s : ByteArray) (k' n' : Int) (s' : ByteArray) (x : Int) (hx : x = -1 ∨ x = 0 ∨ x = 1) (hC : ∀ w, Ret 57 #[val k n s, val k' n' s'] w (.int .i64 x)) (w : World) :
    Ret 43 #[.int .u8 12, val k n s, val k' n' s'] w (enc (bo (cmpB 12 x))) := by
  rcases hx with rfl | rfl | rfl
  · go_enter Tryz.func43, Tryz.ntmps43
    go_wp2_with fail
    refine (hC _).mono ?_; rintro e w1 ⟨rfl, hbw1⟩; obtain ⟨hcw1, hfw1⟩ := bcell hbw1; have hzw1 := hbw1.size; (try simp at hzw1); have hk0w1 : w.heap.size < w1.heap.size := (by omega); have hk1w1 : w.heap.size + 1 < w1.heap.size := (by omega); have hk2w1 : w.heap.size + 1 + 1 < w1.heap.size := (by omega)
    go_wp2_with fail
    refine (c_truth false _).mono ?_; rintro e w2 ⟨rfl, hbw2⟩; obtain ⟨hcw2, hfw2⟩ := bcell hbw2; have hzw2 := hbw2.size; (try simp at hzw2); have hk0w2 : w.heap.size < w2.heap.size := (by omega); have hk1w2 : w.heap.size + 1 < w2.heap.size := (by omega); have hk2w2 : w.heap.size + 1 + 1 < w2.heap.size := (by omega)
    go_wp2
    exact bodyPost_ret (v := ov 3 0 ⟨#[]⟩ 0) (by simp [results, Tryz.results43, go_sem, *]) rfl ⟨ret_v (by rw [show cmpB 12 (-1) = false by decide +kernel]; rfl), by repeat (first | exact Below.refl _ _ | assumption | exact Go.Proofs.YtdbhencjomnjhaaGreatDoor.V.below_drewN _ _ | (refine bel_trans ?_ (Go.Proofs.YtdbhencjomnjhaaGreatDoor.V.below_drewN _ _)) | (refine bel_trans ?_ (by assumption)) | (with_reducible apply bel_alloc) | (with_reducible apply Below.drew) | apply bel_alloc | apply Below.drew | refine bel_set ?_ (by simp; try omega) _)⟩
  · go_enter Tryz.func43, Tryz.ntmps43
    go_wp2_with fail
    refine (hC _).mono ?_; rintro e w1 ⟨rfl, hbw1⟩; obtain ⟨hcw1, hfw1⟩ := bcell hbw1; have hzw1 := hbw1.size; (try simp at hzw1); have hk0w1 : w.heap.size < w1.heap.size := (by omega); have hk1w1 : w.heap.size + 1 < w1.heap.size := (by omega); have hk2w1 : w.heap.size + 1 + 1 < w1.heap.size := (by omega)
    go_wp2_with fail
    refine (c_truth true _).mono ?_; rintro e w2 ⟨rfl, hbw2⟩; obtain ⟨hcw2, hfw2⟩ := bcell hbw2; have hzw2 := hbw2.size; (try simp at hzw2); have hk0w2 : w.heap.size < w2.heap.size := (by omega); have hk1w2 : w.heap.size + 1 < w2.heap.size := (by omega); have hk2w2 : w.heap.size + 1 + 1 < w2.heap.size := (by omega)
    go_wp2
    exact bodyPost_ret (v := ov 3 1 ⟨#[]⟩ 0) (by simp [results, Tryz.results43, go_sem, *]) rfl ⟨ret_v (by rw [show cmpB 12 (0) = true by decide +kernel]; rfl), by repeat (first | exact Below.refl _ _ | assumption | exact Go.Proofs.YtdbhencjomnjhaaGreatDoor.V.below_drewN _ _ | (refine bel_trans ?_ (Go.Proofs.YtdbhencjomnjhaaGreatDoor.V.below_drewN _ _)) | (refine bel_trans ?_ (by assumption)) | (with_reducible apply bel_alloc) | (with_reducible apply Below.drew) | apply bel_alloc | apply Below.drew | refine bel_set ?_ (by simp; try omega) _)⟩
  · go_enter Tryz.func43, Tryz.ntmps43
    go_wp2_with fail
    refine (hC _).mono ?_; rintro e w1 ⟨rfl, hbw1⟩; obtain ⟨hcw1, hfw1⟩ := bcell hbw1; have hzw1 := hbw1.size; (try simp at hzw1); have hk0w1 : w.heap.size < w1.heap.size := (by omega); have hk1w1 : w.heap.size + 1 < w1.heap.size := (by omega); have hk2w1 : w.heap.size + 1 + 1 < w1.heap.size := (by omega)
    go_wp2_with fail
    refine (c_truth false _).mono ?_; rintro e w2 ⟨rfl, hbw2⟩; obtain ⟨hcw2, hfw2⟩ := bcell hbw2; have hzw2 := hbw2.size; (try simp at hzw2); have hk0w2 : w.heap.size < w2.heap.size := (by omega); have hk1w2 : w.heap.size + 1 < w2.heap.size := (by omega); have hk2w2 : w.heap.size + 1 + 1 < w2.heap.size := (by omega)
    go_wp2
    exact bodyPost_ret (v := ov 3 0 ⟨#[]⟩ 0) (by simp [results, Tryz.results43, go_sem, *]) rfl ⟨ret_v (by rw [show cmpB 12 (1) = false by decide +kernel]; rfl), by repeat (first | exact Below.refl _ _ | assumption | exact Go.Proofs.YtdbhencjomnjhaaGreatDoor.V.below_drewN _ _ | (refine bel_trans ?_ (Go.Proofs.YtdbhencjomnjhaaGreatDoor.V.below_drewN _ _)) | (refine bel_trans ?_ (by assumption)) | (with_reducible apply bel_alloc) | (with_reducible apply Below.drew) | apply bel_alloc | apply Below.drew | refine bel_set ?_ (by simp; try omega) _)⟩
set_option maxRecDepth 100000 in
set_option maxHeartbeats 2000000 in
theorem ns_13 (k n : Int) (s : ByteArray) (k' n' : Int) (s' : ByteArray) (x : Int) (hx : x = -1 ∨ x = 0 ∨ x = 1) (hC : ∀ w, Ret 57 #[val k n s, val k' n' s'] w (.int .i64 x)) (w : World) :
    Ret 43 #[.int .u8 13, val k n s, val k' n' s'] w (enc (bo (cmpB 13 x))) := by
  rcases hx with rfl | rfl | rfl
  · go_enter Tryz.func43, Tryz.ntmps43
    go_wp2_with fail
    refine (hC _).mono ?_; rintro e w1 ⟨rfl, hbw1⟩; obtain ⟨hcw1, hfw1⟩ := bcell hbw1; have hzw1 := hbw1.size; (try simp at hzw1); have hk0w1 : w.heap.size < w1.heap.size := (by omega); have hk1w1 : w.heap.size + 1 < w1.heap.size := (by omega); have hk2w1 : w.heap.size + 1 + 1 < w1.heap.size := (by omega)
    go_wp2_with fail
    refine (c_truth true _).mono ?_; rintro e w2 ⟨rfl, hbw2⟩; obtain ⟨hcw2, hfw2⟩ := bcell hbw2; have hzw2 := hbw2.size; (try simp at hzw2); have hk0w2 : w.heap.size < w2.heap.size := (by omega); have hk1w2 : w.heap.size + 1 < w2.heap.size := (by omega); have hk2w2 : w.heap.size + 1 + 1 < w2.heap.size := (by omega)
    go_wp2
    exact bodyPost_ret (v := ov 3 1 ⟨#[]⟩ 0) (by simp [results, Tryz.results43, go_sem, *]) rfl ⟨ret_v (by rw [show cmpB 13 (-1) = true by decide +kernel]; rfl), by repeat (first | exact Below.refl _ _ | assumption | exact Go.Proofs.YtdbhencjomnjhaaGreatDoor.V.below_drewN _ _ | (refine bel_trans ?_ (Go.Proofs.YtdbhencjomnjhaaGreatDoor.V.below_drewN _ _)) | (refine bel_trans ?_ (by assumption)) | (with_reducible apply bel_alloc) | (with_reducible apply Below.drew) | apply bel_alloc | apply Below.drew | refine bel_set ?_ (by simp; try omega) _)⟩
  · go_enter Tryz.func43, Tryz.ntmps43
    go_wp2_with fail
    refine (hC _).mono ?_; rintro e w1 ⟨rfl, hbw1⟩; obtain ⟨hcw1, hfw1⟩ := bcell hbw1; have hzw1 := hbw1.size; (try simp at hzw1); have hk0w1 : w.heap.size < w1.heap.size := (by omega); have hk1w1 : w.heap.size + 1 < w1.heap.size := (by omega); have hk2w1 : w.heap.size + 1 + 1 < w1.heap.size := (by omega)
    go_wp2_with fail
    refine (c_truth false _).mono ?_; rintro e w2 ⟨rfl, hbw2⟩; obtain ⟨hcw2, hfw2⟩ := bcell hbw2; have hzw2 := hbw2.size; (try simp at hzw2); have hk0w2 : w.heap.size < w2.heap.size := (by omega); have hk1w2 : w.heap.size + 1 < w2.heap.size := (by omega); have hk2w2 : w.heap.size + 1 + 1 < w2.heap.size := (by omega)
    go_wp2
    exact bodyPost_ret (v := ov 3 0 ⟨#[]⟩ 0) (by simp [results, Tryz.results43, go_sem, *]) rfl ⟨ret_v (by rw [show cmpB 13 (0) = false by decide +kernel]; rfl), by repeat (first | exact Below.refl _ _ | assumption | exact Go.Proofs.YtdbhencjomnjhaaGreatDoor.V.below_drewN _ _ | (refine bel_trans ?_ (Go.Proofs.YtdbhencjomnjhaaGreatDoor.V.below_drewN _ _)) | (refine bel_trans ?_ (by assumption)) | (with_reducible apply bel_alloc) | (with_reducible apply Below.drew) | apply bel_alloc | apply Below.drew | refine bel_set ?_ (by simp; try omega) _)⟩
  · go_enter Tryz.func43, Tryz.ntmps43
    go_wp2_with fail
    refine (hC _).mono ?_; rintro e w1 ⟨rfl, hbw1⟩; obtain ⟨hcw1, hfw1⟩ := bcell hbw1; have hzw1 := hbw1.size; (try simp at hzw1); have hk0w1 : w.heap.size < w1.heap.size := (by omega); have hk1w1 : w.heap.size + 1 < w1.heap.size := (by omega); have hk2w1 : w.heap.size + 1 + 1 < w1.heap.size := (by omega)
    go_wp2_with fail
    refine (c_truth true _).mono ?_; rintro e w2 ⟨rfl, hbw2⟩; obtain ⟨hcw2, hfw2⟩ := bcell hbw2; have hzw2 := hbw2.size; (try simp at hzw2); have hk0w2 : w.heap.size < w2.heap.size := (by omega); have hk1w2 : w.heap.size + 1 < w2.heap.size := (by omega); have hk2w2 : w.heap.size + 1 + 1 < w2.heap.size := (by omega)
    go_wp2
    exact bodyPost_ret (v := ov 3 1 ⟨#[]⟩ 0) (by simp [results, Tryz.results43, go_sem, *]) rfl ⟨ret_v (by rw [show cmpB 13 (1) = true by decide +kernel]; rfl), by repeat (first | exact Below.refl _ _ | assumption | exact Go.Proofs.YtdbhencjomnjhaaGreatDoor.V.below_drewN _ _ | (refine bel_trans ?_ (Go.Proofs.YtdbhencjomnjhaaGreatDoor.V.below_drewN _ _)) | (refine bel_trans ?_ (by assumption)) | (with_reducible apply bel_alloc) | (with_reducible apply Below.drew) | apply bel_alloc | apply Below.drew | refine bel_set ?_ (by simp; try omega) _)⟩
set_option maxRecDepth 100000 in
set_option maxHeartbeats 2000000 in
theorem ns_14 (k n : Int) (s : ByteArray) (k' n' : Int) (s' : ByteArray) (x : Int) (hx : x = -1 ∨ x = 0 ∨ x = 1) (hC : ∀ w, Ret 57 #[val k n s, val k' n' s'] w (.int .i64 x)) (w : World) :
    Ret 43 #[.int .u8 14, val k n s, val k' n' s'] w (enc (bo (cmpB 14 x))) := by
  rcases hx with rfl | rfl | rfl
  · go_enter Tryz.func43, Tryz.ntmps43
    go_wp2_with fail
    refine (hC _).mono ?_; rintro e w1 ⟨rfl, hbw1⟩; obtain ⟨hcw1, hfw1⟩ := bcell hbw1; have hzw1 := hbw1.size; (try simp at hzw1); have hk0w1 : w.heap.size < w1.heap.size := (by omega); have hk1w1 : w.heap.size + 1 < w1.heap.size := (by omega); have hk2w1 : w.heap.size + 1 + 1 < w1.heap.size := (by omega)
    go_wp2_with fail
    refine (c_truth true _).mono ?_; rintro e w2 ⟨rfl, hbw2⟩; obtain ⟨hcw2, hfw2⟩ := bcell hbw2; have hzw2 := hbw2.size; (try simp at hzw2); have hk0w2 : w.heap.size < w2.heap.size := (by omega); have hk1w2 : w.heap.size + 1 < w2.heap.size := (by omega); have hk2w2 : w.heap.size + 1 + 1 < w2.heap.size := (by omega)
    go_wp2
    exact bodyPost_ret (v := ov 3 1 ⟨#[]⟩ 0) (by simp [results, Tryz.results43, go_sem, *]) rfl ⟨ret_v (by rw [show cmpB 14 (-1) = true by decide +kernel]; rfl), by repeat (first | exact Below.refl _ _ | assumption | exact Go.Proofs.YtdbhencjomnjhaaGreatDoor.V.below_drewN _ _ | (refine bel_trans ?_ (Go.Proofs.YtdbhencjomnjhaaGreatDoor.V.below_drewN _ _)) | (refine bel_trans ?_ (by assumption)) | (with_reducible apply bel_alloc) | (with_reducible apply Below.drew) | apply bel_alloc | apply Below.drew | refine bel_set ?_ (by simp; try omega) _)⟩
  · go_enter Tryz.func43, Tryz.ntmps43
    go_wp2_with fail
    refine (hC _).mono ?_; rintro e w1 ⟨rfl, hbw1⟩; obtain ⟨hcw1, hfw1⟩ := bcell hbw1; have hzw1 := hbw1.size; (try simp at hzw1); have hk0w1 : w.heap.size < w1.heap.size := (by omega); have hk1w1 : w.heap.size + 1 < w1.heap.size := (by omega); have hk2w1 : w.heap.size + 1 + 1 < w1.heap.size := (by omega)
    go_wp2_with fail
    refine (c_truth false _).mono ?_; rintro e w2 ⟨rfl, hbw2⟩; obtain ⟨hcw2, hfw2⟩ := bcell hbw2; have hzw2 := hbw2.size; (try simp at hzw2); have hk0w2 : w.heap.size < w2.heap.size := (by omega); have hk1w2 : w.heap.size + 1 < w2.heap.size := (by omega); have hk2w2 : w.heap.size + 1 + 1 < w2.heap.size := (by omega)
    go_wp2
    exact bodyPost_ret (v := ov 3 0 ⟨#[]⟩ 0) (by simp [results, Tryz.results43, go_sem, *]) rfl ⟨ret_v (by rw [show cmpB 14 (0) = false by decide +kernel]; rfl), by repeat (first | exact Below.refl _ _ | assumption | exact Go.Proofs.YtdbhencjomnjhaaGreatDoor.V.below_drewN _ _ | (refine bel_trans ?_ (Go.Proofs.YtdbhencjomnjhaaGreatDoor.V.below_drewN _ _)) | (refine bel_trans ?_ (by assumption)) | (with_reducible apply bel_alloc) | (with_reducible apply Below.drew) | apply bel_alloc | apply Below.drew | refine bel_set ?_ (by simp; try omega) _)⟩
  · go_enter Tryz.func43, Tryz.ntmps43
    go_wp2_with fail
    refine (hC _).mono ?_; rintro e w1 ⟨rfl, hbw1⟩; obtain ⟨hcw1, hfw1⟩ := bcell hbw1; have hzw1 := hbw1.size; (try simp at hzw1); have hk0w1 : w.heap.size < w1.heap.size := (by omega); have hk1w1 : w.heap.size + 1 < w1.heap.size := (by omega); have hk2w1 : w.heap.size + 1 + 1 < w1.heap.size := (by omega)
    go_wp2_with fail
    refine (c_truth false _).mono ?_; rintro e w2 ⟨rfl, hbw2⟩; obtain ⟨hcw2, hfw2⟩ := bcell hbw2; have hzw2 := hbw2.size; (try simp at hzw2); have hk0w2 : w.heap.size < w2.heap.size := (by omega); have hk1w2 : w.heap.size + 1 < w2.heap.size := (by omega); have hk2w2 : w.heap.size + 1 + 1 < w2.heap.size := (by omega)
    go_wp2
    exact bodyPost_ret (v := ov 3 0 ⟨#[]⟩ 0) (by simp [results, Tryz.results43, go_sem, *]) rfl ⟨ret_v (by rw [show cmpB 14 (1) = false by decide +kernel]; rfl), by repeat (first | exact Below.refl _ _ | assumption | exact Go.Proofs.YtdbhencjomnjhaaGreatDoor.V.below_drewN _ _ | (refine bel_trans ?_ (Go.Proofs.YtdbhencjomnjhaaGreatDoor.V.below_drewN _ _)) | (refine bel_trans ?_ (by assumption)) | (with_reducible apply bel_alloc) | (with_reducible apply Below.drew) | apply bel_alloc | apply Below.drew | refine bel_set ?_ (by simp; try omega) _)⟩
set_option maxRecDepth 100000 in
set_option maxHeartbeats 2000000 in
theorem ns_15 (k n : Int) (s : ByteArray) (k' n' : Int) (s' : ByteArray) (x : Int) (hx : x = -1 ∨ x = 0 ∨ x = 1) (hC : ∀ w, Ret 57 #[val k n s, val k' n' s'] w (.int .i64 x)) (w : World) :
    Ret 43 #[.int .u8 15, val k n s, val k' n' s'] w (enc (bo (cmpB 15 x))) := by
  rcases hx with rfl | rfl | rfl
  · go_enter Tryz.func43, Tryz.ntmps43
    go_wp2_with fail
    refine (hC _).mono ?_; rintro e w1 ⟨rfl, hbw1⟩; obtain ⟨hcw1, hfw1⟩ := bcell hbw1; have hzw1 := hbw1.size; (try simp at hzw1); have hk0w1 : w.heap.size < w1.heap.size := (by omega); have hk1w1 : w.heap.size + 1 < w1.heap.size := (by omega); have hk2w1 : w.heap.size + 1 + 1 < w1.heap.size := (by omega)
    go_wp2_with fail
    refine (c_truth true _).mono ?_; rintro e w2 ⟨rfl, hbw2⟩; obtain ⟨hcw2, hfw2⟩ := bcell hbw2; have hzw2 := hbw2.size; (try simp at hzw2); have hk0w2 : w.heap.size < w2.heap.size := (by omega); have hk1w2 : w.heap.size + 1 < w2.heap.size := (by omega); have hk2w2 : w.heap.size + 1 + 1 < w2.heap.size := (by omega)
    go_wp2
    exact bodyPost_ret (v := ov 3 1 ⟨#[]⟩ 0) (by simp [results, Tryz.results43, go_sem, *]) rfl ⟨ret_v (by rw [show cmpB 15 (-1) = true by decide +kernel]; rfl), by repeat (first | exact Below.refl _ _ | assumption | exact Go.Proofs.YtdbhencjomnjhaaGreatDoor.V.below_drewN _ _ | (refine bel_trans ?_ (Go.Proofs.YtdbhencjomnjhaaGreatDoor.V.below_drewN _ _)) | (refine bel_trans ?_ (by assumption)) | (with_reducible apply bel_alloc) | (with_reducible apply Below.drew) | apply bel_alloc | apply Below.drew | refine bel_set ?_ (by simp; try omega) _)⟩
  · go_enter Tryz.func43, Tryz.ntmps43
    go_wp2_with fail
    refine (hC _).mono ?_; rintro e w1 ⟨rfl, hbw1⟩; obtain ⟨hcw1, hfw1⟩ := bcell hbw1; have hzw1 := hbw1.size; (try simp at hzw1); have hk0w1 : w.heap.size < w1.heap.size := (by omega); have hk1w1 : w.heap.size + 1 < w1.heap.size := (by omega); have hk2w1 : w.heap.size + 1 + 1 < w1.heap.size := (by omega)
    go_wp2_with fail
    refine (c_truth true _).mono ?_; rintro e w2 ⟨rfl, hbw2⟩; obtain ⟨hcw2, hfw2⟩ := bcell hbw2; have hzw2 := hbw2.size; (try simp at hzw2); have hk0w2 : w.heap.size < w2.heap.size := (by omega); have hk1w2 : w.heap.size + 1 < w2.heap.size := (by omega); have hk2w2 : w.heap.size + 1 + 1 < w2.heap.size := (by omega)
    go_wp2
    exact bodyPost_ret (v := ov 3 1 ⟨#[]⟩ 0) (by simp [results, Tryz.results43, go_sem, *]) rfl ⟨ret_v (by rw [show cmpB 15 (0) = true by decide +kernel]; rfl), by repeat (first | exact Below.refl _ _ | assumption | exact Go.Proofs.YtdbhencjomnjhaaGreatDoor.V.below_drewN _ _ | (refine bel_trans ?_ (Go.Proofs.YtdbhencjomnjhaaGreatDoor.V.below_drewN _ _)) | (refine bel_trans ?_ (by assumption)) | (with_reducible apply bel_alloc) | (with_reducible apply Below.drew) | apply bel_alloc | apply Below.drew | refine bel_set ?_ (by simp; try omega) _)⟩
  · go_enter Tryz.func43, Tryz.ntmps43
    go_wp2_with fail
    refine (hC _).mono ?_; rintro e w1 ⟨rfl, hbw1⟩; obtain ⟨hcw1, hfw1⟩ := bcell hbw1; have hzw1 := hbw1.size; (try simp at hzw1); have hk0w1 : w.heap.size < w1.heap.size := (by omega); have hk1w1 : w.heap.size + 1 < w1.heap.size := (by omega); have hk2w1 : w.heap.size + 1 + 1 < w1.heap.size := (by omega)
    go_wp2_with fail
    refine (c_truth false _).mono ?_; rintro e w2 ⟨rfl, hbw2⟩; obtain ⟨hcw2, hfw2⟩ := bcell hbw2; have hzw2 := hbw2.size; (try simp at hzw2); have hk0w2 : w.heap.size < w2.heap.size := (by omega); have hk1w2 : w.heap.size + 1 < w2.heap.size := (by omega); have hk2w2 : w.heap.size + 1 + 1 < w2.heap.size := (by omega)
    go_wp2
    exact bodyPost_ret (v := ov 3 0 ⟨#[]⟩ 0) (by simp [results, Tryz.results43, go_sem, *]) rfl ⟨ret_v (by rw [show cmpB 15 (1) = false by decide +kernel]; rfl), by repeat (first | exact Below.refl _ _ | assumption | exact Go.Proofs.YtdbhencjomnjhaaGreatDoor.V.below_drewN _ _ | (refine bel_trans ?_ (Go.Proofs.YtdbhencjomnjhaaGreatDoor.V.below_drewN _ _)) | (refine bel_trans ?_ (by assumption)) | (with_reducible apply bel_alloc) | (with_reducible apply Below.drew) | apply bel_alloc | apply Below.drew | refine bel_set ?_ (by simp; try omega) _)⟩
set_option maxRecDepth 100000 in
set_option maxHeartbeats 2000000 in
theorem ns_16 (k n : Int) (s : ByteArray) (k' n' : Int) (s' : ByteArray) (x : Int) (hx : x = -1 ∨ x = 0 ∨ x = 1) (hC : ∀ w, Ret 57 #[val k n s, val k' n' s'] w (.int .i64 x)) (w : World) :
    Ret 43 #[.int .u8 16, val k n s, val k' n' s'] w (enc (bo (cmpB 16 x))) := by
  rcases hx with rfl | rfl | rfl
  · go_enter Tryz.func43, Tryz.ntmps43
    go_wp2_with fail
    refine (hC _).mono ?_; rintro e w1 ⟨rfl, hbw1⟩; obtain ⟨hcw1, hfw1⟩ := bcell hbw1; have hzw1 := hbw1.size; (try simp at hzw1); have hk0w1 : w.heap.size < w1.heap.size := (by omega); have hk1w1 : w.heap.size + 1 < w1.heap.size := (by omega); have hk2w1 : w.heap.size + 1 + 1 < w1.heap.size := (by omega)
    go_wp2_with fail
    refine (c_truth false _).mono ?_; rintro e w2 ⟨rfl, hbw2⟩; obtain ⟨hcw2, hfw2⟩ := bcell hbw2; have hzw2 := hbw2.size; (try simp at hzw2); have hk0w2 : w.heap.size < w2.heap.size := (by omega); have hk1w2 : w.heap.size + 1 < w2.heap.size := (by omega); have hk2w2 : w.heap.size + 1 + 1 < w2.heap.size := (by omega)
    go_wp2
    exact bodyPost_ret (v := ov 3 0 ⟨#[]⟩ 0) (by simp [results, Tryz.results43, go_sem, *]) rfl ⟨ret_v (by rw [show cmpB 16 (-1) = false by decide +kernel]; rfl), by repeat (first | exact Below.refl _ _ | assumption | exact Go.Proofs.YtdbhencjomnjhaaGreatDoor.V.below_drewN _ _ | (refine bel_trans ?_ (Go.Proofs.YtdbhencjomnjhaaGreatDoor.V.below_drewN _ _)) | (refine bel_trans ?_ (by assumption)) | (with_reducible apply bel_alloc) | (with_reducible apply Below.drew) | apply bel_alloc | apply Below.drew | refine bel_set ?_ (by simp; try omega) _)⟩
  · go_enter Tryz.func43, Tryz.ntmps43
    go_wp2_with fail
    refine (hC _).mono ?_; rintro e w1 ⟨rfl, hbw1⟩; obtain ⟨hcw1, hfw1⟩ := bcell hbw1; have hzw1 := hbw1.size; (try simp at hzw1); have hk0w1 : w.heap.size < w1.heap.size := (by omega); have hk1w1 : w.heap.size + 1 < w1.heap.size := (by omega); have hk2w1 : w.heap.size + 1 + 1 < w1.heap.size := (by omega)
    go_wp2_with fail
    refine (c_truth false _).mono ?_; rintro e w2 ⟨rfl, hbw2⟩; obtain ⟨hcw2, hfw2⟩ := bcell hbw2; have hzw2 := hbw2.size; (try simp at hzw2); have hk0w2 : w.heap.size < w2.heap.size := (by omega); have hk1w2 : w.heap.size + 1 < w2.heap.size := (by omega); have hk2w2 : w.heap.size + 1 + 1 < w2.heap.size := (by omega)
    go_wp2
    exact bodyPost_ret (v := ov 3 0 ⟨#[]⟩ 0) (by simp [results, Tryz.results43, go_sem, *]) rfl ⟨ret_v (by rw [show cmpB 16 (0) = false by decide +kernel]; rfl), by repeat (first | exact Below.refl _ _ | assumption | exact Go.Proofs.YtdbhencjomnjhaaGreatDoor.V.below_drewN _ _ | (refine bel_trans ?_ (Go.Proofs.YtdbhencjomnjhaaGreatDoor.V.below_drewN _ _)) | (refine bel_trans ?_ (by assumption)) | (with_reducible apply bel_alloc) | (with_reducible apply Below.drew) | apply bel_alloc | apply Below.drew | refine bel_set ?_ (by simp; try omega) _)⟩
  · go_enter Tryz.func43, Tryz.ntmps43
    go_wp2_with fail
    refine (hC _).mono ?_; rintro e w1 ⟨rfl, hbw1⟩; obtain ⟨hcw1, hfw1⟩ := bcell hbw1; have hzw1 := hbw1.size; (try simp at hzw1); have hk0w1 : w.heap.size < w1.heap.size := (by omega); have hk1w1 : w.heap.size + 1 < w1.heap.size := (by omega); have hk2w1 : w.heap.size + 1 + 1 < w1.heap.size := (by omega)
    go_wp2_with fail
    refine (c_truth true _).mono ?_; rintro e w2 ⟨rfl, hbw2⟩; obtain ⟨hcw2, hfw2⟩ := bcell hbw2; have hzw2 := hbw2.size; (try simp at hzw2); have hk0w2 : w.heap.size < w2.heap.size := (by omega); have hk1w2 : w.heap.size + 1 < w2.heap.size := (by omega); have hk2w2 : w.heap.size + 1 + 1 < w2.heap.size := (by omega)
    go_wp2
    exact bodyPost_ret (v := ov 3 1 ⟨#[]⟩ 0) (by simp [results, Tryz.results43, go_sem, *]) rfl ⟨ret_v (by rw [show cmpB 16 (1) = true by decide +kernel]; rfl), by repeat (first | exact Below.refl _ _ | assumption | exact Go.Proofs.YtdbhencjomnjhaaGreatDoor.V.below_drewN _ _ | (refine bel_trans ?_ (Go.Proofs.YtdbhencjomnjhaaGreatDoor.V.below_drewN _ _)) | (refine bel_trans ?_ (by assumption)) | (with_reducible apply bel_alloc) | (with_reducible apply Below.drew) | apply bel_alloc | apply Below.drew | refine bel_set ?_ (by simp; try omega) _)⟩
set_option maxRecDepth 100000 in
set_option maxHeartbeats 2000000 in
theorem ns_17 (k n : Int) (s : ByteArray) (k' n' : Int) (s' : ByteArray) (x : Int) (hx : x = -1 ∨ x = 0 ∨ x = 1) (hC : ∀ w, Ret 57 #[val k n s, val k' n' s'] w (.int .i64 x)) (w : World) :
    Ret 43 #[.int .u8 17, val k n s, val k' n' s'] w (enc (bo (cmpB 17 x))) := by
  rcases hx with rfl | rfl | rfl
  · go_enter Tryz.func43, Tryz.ntmps43
    go_wp2_with fail
    refine (hC _).mono ?_; rintro e w1 ⟨rfl, hbw1⟩; obtain ⟨hcw1, hfw1⟩ := bcell hbw1; have hzw1 := hbw1.size; (try simp at hzw1); have hk0w1 : w.heap.size < w1.heap.size := (by omega); have hk1w1 : w.heap.size + 1 < w1.heap.size := (by omega); have hk2w1 : w.heap.size + 1 + 1 < w1.heap.size := (by omega)
    go_wp2_with fail
    refine (c_truth false _).mono ?_; rintro e w2 ⟨rfl, hbw2⟩; obtain ⟨hcw2, hfw2⟩ := bcell hbw2; have hzw2 := hbw2.size; (try simp at hzw2); have hk0w2 : w.heap.size < w2.heap.size := (by omega); have hk1w2 : w.heap.size + 1 < w2.heap.size := (by omega); have hk2w2 : w.heap.size + 1 + 1 < w2.heap.size := (by omega)
    go_wp2
    exact bodyPost_ret (v := ov 3 0 ⟨#[]⟩ 0) (by simp [results, Tryz.results43, go_sem, *]) rfl ⟨ret_v (by rw [show cmpB 17 (-1) = false by decide +kernel]; rfl), by repeat (first | exact Below.refl _ _ | assumption | exact Go.Proofs.YtdbhencjomnjhaaGreatDoor.V.below_drewN _ _ | (refine bel_trans ?_ (Go.Proofs.YtdbhencjomnjhaaGreatDoor.V.below_drewN _ _)) | (refine bel_trans ?_ (by assumption)) | (with_reducible apply bel_alloc) | (with_reducible apply Below.drew) | apply bel_alloc | apply Below.drew | refine bel_set ?_ (by simp; try omega) _)⟩
  · go_enter Tryz.func43, Tryz.ntmps43
    go_wp2_with fail
    refine (hC _).mono ?_; rintro e w1 ⟨rfl, hbw1⟩; obtain ⟨hcw1, hfw1⟩ := bcell hbw1; have hzw1 := hbw1.size; (try simp at hzw1); have hk0w1 : w.heap.size < w1.heap.size := (by omega); have hk1w1 : w.heap.size + 1 < w1.heap.size := (by omega); have hk2w1 : w.heap.size + 1 + 1 < w1.heap.size := (by omega)
    go_wp2_with fail
    refine (c_truth true _).mono ?_; rintro e w2 ⟨rfl, hbw2⟩; obtain ⟨hcw2, hfw2⟩ := bcell hbw2; have hzw2 := hbw2.size; (try simp at hzw2); have hk0w2 : w.heap.size < w2.heap.size := (by omega); have hk1w2 : w.heap.size + 1 < w2.heap.size := (by omega); have hk2w2 : w.heap.size + 1 + 1 < w2.heap.size := (by omega)
    go_wp2
    exact bodyPost_ret (v := ov 3 1 ⟨#[]⟩ 0) (by simp [results, Tryz.results43, go_sem, *]) rfl ⟨ret_v (by rw [show cmpB 17 (0) = true by decide +kernel]; rfl), by repeat (first | exact Below.refl _ _ | assumption | exact Go.Proofs.YtdbhencjomnjhaaGreatDoor.V.below_drewN _ _ | (refine bel_trans ?_ (Go.Proofs.YtdbhencjomnjhaaGreatDoor.V.below_drewN _ _)) | (refine bel_trans ?_ (by assumption)) | (with_reducible apply bel_alloc) | (with_reducible apply Below.drew) | apply bel_alloc | apply Below.drew | refine bel_set ?_ (by simp; try omega) _)⟩
  · go_enter Tryz.func43, Tryz.ntmps43
    go_wp2_with fail
    refine (hC _).mono ?_; rintro e w1 ⟨rfl, hbw1⟩; obtain ⟨hcw1, hfw1⟩ := bcell hbw1; have hzw1 := hbw1.size; (try simp at hzw1); have hk0w1 : w.heap.size < w1.heap.size := (by omega); have hk1w1 : w.heap.size + 1 < w1.heap.size := (by omega); have hk2w1 : w.heap.size + 1 + 1 < w1.heap.size := (by omega)
    go_wp2_with fail
    refine (c_truth true _).mono ?_; rintro e w2 ⟨rfl, hbw2⟩; obtain ⟨hcw2, hfw2⟩ := bcell hbw2; have hzw2 := hbw2.size; (try simp at hzw2); have hk0w2 : w.heap.size < w2.heap.size := (by omega); have hk1w2 : w.heap.size + 1 < w2.heap.size := (by omega); have hk2w2 : w.heap.size + 1 + 1 < w2.heap.size := (by omega)
    go_wp2
    exact bodyPost_ret (v := ov 3 1 ⟨#[]⟩ 0) (by simp [results, Tryz.results43, go_sem, *]) rfl ⟨ret_v (by rw [show cmpB 17 (1) = true by decide +kernel]; rfl), by repeat (first | exact Below.refl _ _ | assumption | exact Go.Proofs.YtdbhencjomnjhaaGreatDoor.V.below_drewN _ _ | (refine bel_trans ?_ (Go.Proofs.YtdbhencjomnjhaaGreatDoor.V.below_drewN _ _)) | (refine bel_trans ?_ (by assumption)) | (with_reducible apply bel_alloc) | (with_reducible apply Below.drew) | apply bel_alloc | apply Below.drew | refine bel_set ?_ (by simp; try omega) _)⟩
end Go.Proofs.YtdbhencjomnjhaaGreatDoor.T
namespace Go.Proofs.YtdbhencjomnjhaaGreatDoor.T
open Go.ChangeShapes Go.WideShapes Go.ChangeAt Go.RowKit Go.Proofs.YtdbhencjomnjhaaGreatDoor.V Go.Proofs.YtdbhencjomnjhaaGreatDoor.K
def isNul (o : Ot) : Bool := decide (o.k = 0 ∧ o.n = 0 ∧ o.s.toList = [] ∧ o.e = 0)
set_option maxRecDepth 100000 in
set_option maxHeartbeats 4000000 in
theorem l_IndexN (a : Option Addr) (n c : Nat) (l : List Ot) (hn : n ≤ 9223372036854775000) (w : World) (h : Outs w a n l) :
    Ret 56 #[.slice a n c, ov 0 0 ⟨#[]⟩ 0] w (.int .i64 (idx isNul l 0)) := by
  have HL := Lib.hid h
  clear h
  go_enter Tryz.func56, Tryz.ntmps56
  go_wp2
  go_loopw [5, 8] (fun s5 s8 wr => ∃ (k : Nat), k ≤ n ∧ s8 = .int .i64 k ∧ Hid (idx isNul (l.drop k) k = idx isNul l 0) ∧ Hid (Box wr w.heap.size nul) ∧ Hid (Below w.heap.size w wr)) (fun _ s8 _ => n - (intOf s8).toNat)
  case atStart => exact ⟨0, by omega, rfl, rfl, Box.new w nul, bel_alloc (Below.refl _ _) _⟩
  case round =>
    obtain ⟨k, hk, rfl, HI, HX, HB⟩ := hrel
    by_cases hlt : k < n
    · obtain ⟨g, q, o, rfl, hlk, hg, c0, c1, c2, c3⟩ := (HL.out.below HB.out).at_ k hlt
      have HI2 := Lib.hid ((idx_drop hlk k).symm.trans HI.out)
      clear HI hlk
      obtain ⟨hx, d0, d1, d2, d3, -, -, -, -⟩ := HX.out
      obtain ⟨ok, on, os, oe⟩ := o
      simp only at c0 c1 c2 c3
      by_cases hq : ok = 0 ∧ on = 0 ∧ os.toList = [] ∧ oe = 0
      · have HI3 : Hid ((k : Int) = idx isNul l 0) := by
          have h := HI2.out
          rw [show isNul ⟨ok, on, os, oe⟩ = true by unfold isNul; exact decide_eq_true hq, if_pos rfl] at h
          exact h
        obtain ⟨rfl, rfl, hs, rfl⟩ := hq
        clear HI2
        go_wp2_with fail
        refine region_far (by kernel_rfl) (by kernel_rfl) ?_
        repeat (go_big_quiet_step (fail))
        refine wpQuiet_nil ?_
        intro wq hbq
        go_wp2
        go_ret
        exact ⟨ret_int HI3.out, bel_trans HB.out hbq⟩
      · have HI3 : Hid (idx isNul (l.drop (k + 1)) (k + 1) = idx isNul l 0) := by
          have h := HI2.out
          rw [show isNul ⟨ok, on, os, oe⟩ = false by unfold isNul; exact decide_eq_false hq, if_neg (by simp)] at h
          exact h
        clear HI2
        by_cases h1 : ok = 0
        · by_cases h2 : on = 0
          · by_cases h3 : os.toList = []
            · have h4 : ¬ oe = 0 := fun h4 => hq ⟨h1, h2, h3, h4⟩
              have h4' : ¬ 0 = oe := fun h => h4 h.symm
              clear hq
              go_wp2_with fail
              refine region_far (by kernel_rfl) (by kernel_rfl) ?_
              repeat (go_big_quiet_step (fail))
              refine wpQuiet_nil ?_
              intro wq hbq
              go_wp2
              refine ⟨⟨k + 1, by omega, by go_num, HI3.out, HX.out.below hbq, bel_trans HB.out hbq⟩, by simp [intOf]; omega⟩
            · have h3' : ¬ [] = os.toList := fun h => h3 h.symm
              clear hq
              go_wp2_with fail
              refine region_far (by kernel_rfl) (by kernel_rfl) ?_
              repeat (go_big_quiet_step (fail))
              refine wpQuiet_nil ?_
              intro wq hbq
              go_wp2
              refine ⟨⟨k + 1, by omega, by go_num, HI3.out, HX.out.below hbq, bel_trans HB.out hbq⟩, by simp [intOf]; omega⟩
          · have h2' : ¬ 0 = on := fun h => h2 h.symm
            clear hq
            go_wp2_with fail
            refine region_far (by kernel_rfl) (by kernel_rfl) ?_
            repeat (go_big_quiet_step (fail))
            refine wpQuiet_nil ?_
            intro wq hbq
            go_wp2
            refine ⟨⟨k + 1, by omega, by go_num, HI3.out, HX.out.below hbq, bel_trans HB.out hbq⟩, by simp [intOf]; omega⟩
        · have h1' : ¬ 0 = ok := fun h => h1 h.symm
          clear hq
          go_wp2_with fail
          refine region_far (by kernel_rfl) (by kernel_rfl) ?_
          repeat (go_big_quiet_step (fail))
          refine wpQuiet_nil ?_
          intro wq hbq
          go_wp2
          refine ⟨⟨k + 1, by omega, by go_num, HI3.out, HX.out.below hbq, bel_trans HB.out hbq⟩, by simp [intOf]; omega⟩
    · have he : idx isNul l 0 = -1 := by rw [← HI.out, idx_end (by have := HL.out.len; omega)]
      have HE := Lib.hid he
      clear he HI
      go_wp2
      go_ret
      exact ⟨ret_int HE.out.symm, HB.out⟩
theorem l_ContainsN (a : Option Addr) (n c : Nat) (l : List Ot) (hn : n ≤ 9223372036854775000) (w : World) (h : Outs w a n l) :
    Ret 42 #[.slice a n c, ov 0 0 ⟨#[]⟩ 0] w (.bool (l.any isNul)) := by
  have HI := Lib.hid (idx_any (p := isNul) l 0)
  go_enter Tryz.func42, Tryz.ntmps42
  go_wp2_with fail
  refine (l_IndexN a n c l hn _ (h.below (bel_alloc (Below.refl _ _) _))).mono ?_
  rintro e w1 ⟨rfl, hb1⟩
  have B1 : Below w.heap.size w w1 := bel_trans (bel_alloc (Below.refl _ _) _) hb1
  go_wp2
  go_ret
  exact ⟨ret_bool HI.out, B1⟩
end Go.Proofs.YtdbhencjomnjhaaGreatDoor.T
namespace Go.Proofs.YtdbhencjomnjhaaGreatDoor.T
open Go.ChangeShapes Go.WideShapes Go.ChangeAt Go.RowKit Go.Proofs.YtdbhencjomnjhaaGreatDoor.V Go.Proofs.YtdbhencjomnjhaaGreatDoor.K
set_option maxRecDepth 100000 in
set_option maxHeartbeats 4000000 in
theorem c_strict2 (op : Int) (h18 : (op == 18) = false) (h20 : (op == 20) = false) (h21 : (op == 21) = false) (u v : Vl) (nu : ¬ u.1 = 0) (nv : ¬ v.1 = 0) (z : Ot) (hN : ∀ w, Ret 43 #[.int .u8 op, val u.1 u.2.1 u.2.2, val v.1 v.2.1 v.2.2] w (ov z.k z.n z.s z.e))
    (a : Option Addr) (c : Nat) (w : World) (h : Outs w a 2 [ofV u, ofV v]) : Ret 18 #[.int .u8 op, .slice a 2 c] w (ov z.k z.n z.s z.e) := by
  have HL := Lib.hid h
  have hE : errs 0 [ofV u, ofV v] = 0 := by simp [errs, ofV, lst]
  have hC : [ofV u, ofV v].any isNul = false := by simp [isNul, ofV, nu, nv]
  have hLe : ∀ W, Outs W a 2 [ofV u, ofV v] → Ret 40 #[.slice a 2 c] W (.int .i64 0) := fun W h => by have := c_least a 2 c _ (by omega) W h; rwa [hE] at this
  have hCo : ∀ W, Outs W a 2 [ofV u, ofV v] → Ret 42 #[.slice a 2 c, ov 0 0 ⟨#[]⟩ 0] W (.bool false) := fun W h => by have := l_ContainsN a 2 c _ (by omega) W h; rwa [hC] at this
  clear h hE hC
  go_enter Tryz.func18, Tryz.ntmps18
  go_upto_region 4 with (go_at_call 40; refine (hLe _ (HL.out.below (bel_alloc (Below.refl _ _) _))).mono ?_; rintro e w1 ⟨rfl, hb1⟩)
  have B1 : Hid (Below w.heap.size w w1) := bel_trans (bel_alloc (Below.refl _ _) _) hb1
  have X1 : Hid (Box w1 w.heap.size nul) := (Box.new w nul).below hb1
  clear hb1
  go_cut [6, 7] from 8 (fun s6 s7 wc => ∃ b6 b7, s6 = .pointer (some ⟨b6, 0, none⟩) ∧ s7 = .pointer (some ⟨b7, 0, none⟩) ∧
    Hid (b6 < wc.heap.size ∧ wc.cell? ⟨b6, 0, none⟩ = some (.int .u8 u.1) ∧ wc.cell? ⟨b6, 1, none⟩ = some (.int .i64 u.2.1) ∧ wc.cell? ⟨b6, 2, none⟩ = some (.string u.2.2)) ∧
    Hid (b7 < wc.heap.size ∧ wc.cell? ⟨b7, 0, none⟩ = some (.int .u8 v.1) ∧ wc.cell? ⟨b7, 1, none⟩ = some (.int .i64 v.2.1) ∧ wc.cell? ⟨b7, 2, none⟩ = some (.string v.2.2)) ∧ Hid (Below w1.heap.size w1 wc))
  case first =>
    obtain ⟨g, p, o, rfl, e1, hg, c0, c1, c2, c3⟩ := (HL.out.below B1.out).at_ 0 (by omega)
    obtain ⟨g', p', o', e2, e3, -, d0, d1, d2, d3⟩ := (HL.out.below B1.out).at_ 1 (by omega)
    injection e2 with e2
    injection e2 with e4 e5
    subst e4; subst e5
    obtain rfl : ofV u = o := Option.some.inj e1
    obtain rfl : ofV v = o' := Option.some.inj e3
    simp only [ofV, Nat.zero_mul, Nat.one_mul, Nat.add_zero] at c0 c1 c2 d0 d1 d2
    clear e1 e3 c3 d3
    obtain ⟨u1, u2, u3⟩ := u
    obtain ⟨v1, v2, v3⟩ := v
    simp only at c0 c1 c2 d0 d1 d2
    have hw : IntKind.i64.wrap (2 - 1) = 2 - 1 := by decide
    have hw1 : IntKind.i64.wrap 1 = 1 := by decide
    go_region_held3 (fun w' => w'.cell? ⟨g, p, none⟩ = some (.int .u8 u1) ∧ w'.cell? ⟨g, p + 1, none⟩ = some (.int .i64 u2) ∧ w'.cell? ⟨g, p + 2, none⟩ = some (.string u3) ∧ w'.cell? ⟨g, p + 4, none⟩ = some (.int .u8 v1) ∧ w'.cell? ⟨g, p + 4 + 1, none⟩ = some (.int .i64 v2) ∧ w'.cell? ⟨g, p + 4 + 2, none⟩ = some (.string v3)) (simp [*, go_sem, World.cell?_alloc_past]) (fail)
    all_goals
      go_wp2
      go_meet
      refine ⟨_, _, rfl, rfl, ?_, ?_, ?_⟩
      · exact ⟨by simp <;> omega, by simp [*, go_sem, World.cell?_alloc_past], by simp [*, go_sem, World.cell?_alloc_past], by simp [*, go_sem, World.cell?_alloc_past]⟩
      · exact ⟨by simp <;> omega, by simp [*, go_sem, World.cell?_alloc_past], by simp [*, go_sem, World.cell?_alloc_past], by simp [*, go_sem, World.cell?_alloc_past]⟩
      · show Below _ _ _
        repeat (first | exact Below.refl _ _ | (refine bel_trans ?_ (by assumption)) | (with_reducible apply bel_alloc) | (with_reducible apply Below.drew) | apply bel_alloc | apply Below.drew | refine bel_set ?_ (by simp; try omega) _)
  case rest =>
    obtain ⟨b6, b7, rfl, rfl, U, V, B⟩ := hcut
    have B2 : Hid (Below w.heap.size w wc) := bel_trans B1.out B.out
    have X2 : Hid (Box wc w.heap.size nul) := X1.out.below B.out
    clear B1 X1 B hLe
    go_wp2_with fail
    refine (c_null _).mono ?_
    rintro e w2 ⟨rfl, hb2⟩
    go_wp2_with fail
    refine (hCo _ (HL.out.below (bel_trans B2.out hb2))).mono ?_
    rintro e w3 ⟨rfl, hb3⟩
    have hs : Below wc.heap.size wc w3 := bel_trans hb2 hb3
    have B3 : Hid (Below w.heap.size w w3) := bel_trans B2.out hs
    have X3 : Hid (Box w3 w.heap.size nul) := X2.out.below hs
    obtain ⟨u0, u1, u2, u3⟩ := U.out
    obtain ⟨v0, v1, v2, v3⟩ := V.out
    replace u1 := (hs.cell (p := ⟨b6, 0, none⟩) u0).trans u1
    replace u2 := (hs.cell (p := ⟨b6, 1, none⟩) u0).trans u2
    replace u3 := (hs.cell (p := ⟨b6, 2, none⟩) u0).trans u3
    replace v1 := (hs.cell (p := ⟨b7, 0, none⟩) v0).trans v1
    replace v2 := (hs.cell (p := ⟨b7, 1, none⟩) v0).trans v2
    replace v3 := (hs.cell (p := ⟨b7, 2, none⟩) v0).trans v3
    clear hb2 hb3 hs U V B2 X2 hCo
    go_wp2_with fail
    refine (hN _).mono ?_
    rintro e w4 ⟨rfl, hb4⟩
    have B4 : Hid (Below w.heap.size w w4) := bel_trans B3.out hb4
    obtain ⟨hx, d0, d1, d2, d3, e0, e1, e2, e3⟩ := X3.out.below hb4
    clear hb4
    go_wp2
    exact bodyPost_ret (v := ov z.k z.n z.s z.e) (by simp [results, Tryz.results18, go_sem, *]) rfl ⟨rfl, put4_below B4.out (Nat.le_refl _) _⟩
end Go.Proofs.YtdbhencjomnjhaaGreatDoor.T
namespace Go.Proofs.YtdbhencjomnjhaaGreatDoor.T
open Go.ChangeShapes Go.WideShapes Go.ChangeAt Go.RowKit Go.Proofs.YtdbhencjomnjhaaGreatDoor.V Go.Proofs.YtdbhencjomnjhaaGreatDoor.K
set_option maxRecDepth 100000 in
set_option maxHeartbeats 4000000 in
theorem c_strict2n (op : Int) (h18 : (op == 18) = false) (h20 : (op == 20) = false) (h21 : (op == 21) = false) (u v : Vl) (hC : [ofV u, ofV v].any isNul = true)
    (a : Option Addr) (c : Nat) (w : World) (h : Outs w a 2 [ofV u, ofV v]) : Ret 18 #[.int .u8 op, .slice a 2 c] w (ov 0 0 ⟨#[]⟩ 0) := by
  have HL := Lib.hid h
  have hE : errs 0 [ofV u, ofV v] = 0 := by simp [errs, ofV, lst]
  have hLe : ∀ W, Outs W a 2 [ofV u, ofV v] → Ret 40 #[.slice a 2 c] W (.int .i64 0) := fun W h => by have := c_least a 2 c _ (by omega) W h; rwa [hE] at this
  have hCo : ∀ W, Outs W a 2 [ofV u, ofV v] → Ret 42 #[.slice a 2 c, ov 0 0 ⟨#[]⟩ 0] W (.bool true) := fun W h => by have := l_ContainsN a 2 c _ (by omega) W h; rwa [hC] at this
  clear h hE hC
  go_enter Tryz.func18, Tryz.ntmps18
  go_upto_region 4 with (go_at_call 40; refine (hLe _ (HL.out.below (bel_alloc (Below.refl _ _) _))).mono ?_; rintro e w1 ⟨rfl, hb1⟩)
  have B1 : Hid (Below w.heap.size w w1) := bel_trans (bel_alloc (Below.refl _ _) _) hb1
  have X1 : Hid (Box w1 w.heap.size nul) := (Box.new w nul).below hb1
  clear hb1
  go_cut [6, 7] from 8 (fun s6 s7 wc => ∃ b6 b7, s6 = .pointer (some ⟨b6, 0, none⟩) ∧ s7 = .pointer (some ⟨b7, 0, none⟩) ∧
    Hid (b6 < wc.heap.size ∧ wc.cell? ⟨b6, 0, none⟩ = some (.int .u8 u.1) ∧ wc.cell? ⟨b6, 1, none⟩ = some (.int .i64 u.2.1) ∧ wc.cell? ⟨b6, 2, none⟩ = some (.string u.2.2)) ∧
    Hid (b7 < wc.heap.size ∧ wc.cell? ⟨b7, 0, none⟩ = some (.int .u8 v.1) ∧ wc.cell? ⟨b7, 1, none⟩ = some (.int .i64 v.2.1) ∧ wc.cell? ⟨b7, 2, none⟩ = some (.string v.2.2)) ∧ Hid (Below w1.heap.size w1 wc))
  case first =>
    obtain ⟨g, p, o, rfl, e1, hg, c0, c1, c2, c3⟩ := (HL.out.below B1.out).at_ 0 (by omega)
    obtain ⟨g', p', o', e2, e3, -, d0, d1, d2, d3⟩ := (HL.out.below B1.out).at_ 1 (by omega)
    injection e2 with e2
    injection e2 with e4 e5
    subst e4; subst e5
    obtain rfl : ofV u = o := Option.some.inj e1
    obtain rfl : ofV v = o' := Option.some.inj e3
    simp only [ofV, Nat.zero_mul, Nat.one_mul, Nat.add_zero] at c0 c1 c2 d0 d1 d2
    clear e1 e3 c3 d3
    obtain ⟨u1, u2, u3⟩ := u
    obtain ⟨v1, v2, v3⟩ := v
    simp only at c0 c1 c2 d0 d1 d2
    have hw : IntKind.i64.wrap (2 - 1) = 2 - 1 := by decide
    have hw1 : IntKind.i64.wrap 1 = 1 := by decide
    go_region_held3 (fun w' => w'.cell? ⟨g, p, none⟩ = some (.int .u8 u1) ∧ w'.cell? ⟨g, p + 1, none⟩ = some (.int .i64 u2) ∧ w'.cell? ⟨g, p + 2, none⟩ = some (.string u3) ∧ w'.cell? ⟨g, p + 4, none⟩ = some (.int .u8 v1) ∧ w'.cell? ⟨g, p + 4 + 1, none⟩ = some (.int .i64 v2) ∧ w'.cell? ⟨g, p + 4 + 2, none⟩ = some (.string v3)) (simp [*, go_sem, World.cell?_alloc_past]) (fail)
    all_goals
      go_wp2
      go_meet
      refine ⟨_, _, rfl, rfl, ?_, ?_, ?_⟩
      · exact ⟨by simp <;> omega, by simp [*, go_sem, World.cell?_alloc_past], by simp [*, go_sem, World.cell?_alloc_past], by simp [*, go_sem, World.cell?_alloc_past]⟩
      · exact ⟨by simp <;> omega, by simp [*, go_sem, World.cell?_alloc_past], by simp [*, go_sem, World.cell?_alloc_past], by simp [*, go_sem, World.cell?_alloc_past]⟩
      · show Below _ _ _
        repeat (first | exact Below.refl _ _ | (refine bel_trans ?_ (by assumption)) | (with_reducible apply bel_alloc) | (with_reducible apply Below.drew) | apply bel_alloc | apply Below.drew | refine bel_set ?_ (by simp; try omega) _)
  case rest =>
    obtain ⟨b6, b7, rfl, rfl, U, V, B⟩ := hcut
    have B2 : Hid (Below w.heap.size w wc) := bel_trans B1.out B.out
    have X2 : Hid (Box wc w.heap.size nul) := X1.out.below B.out
    clear B1 X1 B hLe
    go_wp2_with fail
    refine (c_null _).mono ?_
    rintro e w2 ⟨rfl, hb2⟩
    go_wp2_with fail
    refine (hCo _ (HL.out.below (bel_trans B2.out hb2))).mono ?_
    rintro e w3 ⟨rfl, hb3⟩
    have hs : Below wc.heap.size wc w3 := bel_trans hb2 hb3
    have B3 : Hid (Below w.heap.size w w3) := bel_trans B2.out hs
    have X3 : Hid (Box w3 w.heap.size nul) := X2.out.below hs
    clear hb2 hb3 hs U V B2 X2 hCo
    go_wp2_with fail
    refine (c_null _).mono ?_
    rintro e w4 ⟨rfl, hb4⟩
    have B4 : Hid (Below w.heap.size w w4) := bel_trans B3.out hb4
    obtain ⟨hx, d0, d1, d2, d3, e0, e1, e2, e3⟩ := X3.out.below hb4
    clear hb4
    go_wp2
    exact bodyPost_ret (v := ov 0 0 ⟨#[]⟩ 0) (by simp [results, Tryz.results18, go_sem, *]) rfl ⟨rfl, put4_below B4.out (Nat.le_refl _) nul⟩
theorem vd_size {k n : Int} {s : ByteArray} (h : vd k n s = true) : s.size ≤ maxLen := by
  have he : s.toList.isEmpty = true → s.size ≤ maxLen := fun h => by
    rw [ba_nil (List.isEmpty_iff.1 h)]; exact Nat.zero_le _
  unfold vd at h
  split at h
  · exact he (by simp at h; simp [h.2])
  · split at h
    · exact he h
    · split at h
      · simp at h
        unfold maxLen; omega
      · split at h
        · exact he (by simp at h; simp [h.2])
        · cases h
theorem isNul_ok {v : Vl} (h : vOk v = true) : isNul (ofV v) = isN (ofV v) := by
  obtain ⟨k, n, s⟩ := v
  unfold vOk vd at h
  unfold isNul isN ofV
  by_cases hk : k = 0
  · subst hk
    simp at h
    simp [h.1, h.2]
  · simp [hk]
theorem cmp_bo {op c : Int} (h1 : 12 ≤ op) (h2 : op ≤ 17) : cmpO op c = bo (cmpB op c) := by
  have : op = 12 ∨ op = 13 ∨ op = 14 ∨ op = 15 ∨ op = 16 ∨ op = 17 := by omega
  rcases this with rfl | rfl | rfl | rfl | rfl | rfl <;> unfold cmpO cmpB <;> congr 1 <;> simp <;> rw [Bool.eq_iff_iff] <;> simp
theorem c_strict_cmp (op : Int) (h1 : 12 ≤ op) (h2 : op ≤ 17) (u v : Vl) (hu : vOk u = true) (hv : vOk v = true) (ha : agree u.1 v.1 = true) (a : Option Addr) (c : Nat) (w : World) (h : Outs w a 2 [ofV u, ofV v]) :
    Ret 18 #[.int .u8 op, .slice a 2 c] w (enc (node op [ofV u, ofV v])) := by
  rw [node_cmp h1 h2 ⟨rfl, rfl, ofV_ok hu, ofV_ok hv, ha⟩]
  have e18 : (op == 18) = false := by simp; omega
  have e20 : (op == 20) = false := by simp; omega
  have e21 : (op == 21) = false := by simp; omega
  by_cases hn : (isN (ofV u) || isN (ofV v)) = true
  · rw [if_pos hn]
    exact c_strict2n op e18 e20 e21 u v (by simp only [List.any_cons, List.any_nil, Bool.or_false]; rw [isNul_ok hu, isNul_ok hv]; exact hn) a c w h
  · rw [if_neg hn, cmp_bo h1 h2]
    simp only [isN, ofV, Bool.or_eq_true, Bool.and_eq_true, beq_iff_eq, not_or, not_and] at hn
    have nu : ¬ u.1 = 0 := hn.1 trivial
    have nv : ¬ v.1 = 0 := hn.2 trivial
    have hk : u.1 = v.1 := by
      unfold agree at ha
      simp only [Bool.or_eq_true, beq_iff_eq] at ha
      omega
    have hx : cmpV u.1 u.2.1 u.2.2 v.1 v.2.1 v.2.2 = -1 ∨ cmpV u.1 u.2.1 u.2.2 v.1 v.2.1 v.2.2 = 0 ∨ cmpV u.1 u.2.1 u.2.2 v.1 v.2.1 v.2.2 = 1 := by
      have hu' : vd u.1 u.2.1 u.2.2 = true := hu
      have hv' : vd v.1 v.2.1 v.2.2 = true := hv
      rw [← hk] at hv' ⊢
      exact (cmpV_3 hu' hv').1
    have ku := vd_kind (show vd u.1 u.2.1 u.2.2 = true from hu)
    have kv := vd_kind (show vd v.1 v.2.1 v.2.2 = true from hv)
    have hC : ∀ w, Ret 57 #[val u.1 u.2.1 u.2.2, val v.1 v.2.1 v.2.2] w (.int .i64 (cmpV u.1 u.2.1 u.2.2 v.1 v.2.1 v.2.2)) := fun w => c_Compare _ _ _ _ _ _ (by omega) (by omega) (vd_size hu) (vd_size hv) w
    show Ret 18 _ w (ov (bo (cmpB op (cmpV u.1 u.2.1 u.2.2 v.1 v.2.1 v.2.2))).k _ _ _)
    refine c_strict2 op e18 e20 e21 u v nu nv _ (fun w => ?_) a c w h
    have : op = 12 ∨ op = 13 ∨ op = 14 ∨ op = 15 ∨ op = 16 ∨ op = 17 := by omega
    rcases this with rfl | rfl | rfl | rfl | rfl | rfl
    · exact ns_12 _ _ _ _ _ _ _ hx hC w
    · exact ns_13 _ _ _ _ _ _ _ hx hC w
    · exact ns_14 _ _ _ _ _ _ _ hx hC w
    · exact ns_15 _ _ _ _ _ _ _ hx hC w
    · exact ns_16 _ _ _ _ _ _ _ hx hC w
    · exact ns_17 _ _ _ _ _ _ _ hx hC w
end Go.Proofs.YtdbhencjomnjhaaGreatDoor.T
namespace Go.Proofs.YtdbhencjomnjhaaGreatDoor.T
open Go.ChangeShapes Go.WideShapes Go.ChangeAt Go.RowKit Go.Proofs.YtdbhencjomnjhaaGreatDoor.V Go.Proofs.YtdbhencjomnjhaaGreatDoor.K
set_option maxRecDepth 100000 in
set_option maxHeartbeats 4000000 in
theorem c_Node_cmp (op : Int) (h1 : 12 ≤ op) (h2 : op ≤ 17) (u v : Vl) (hu : vOk u = true) (hv : vOk v = true) (ha : agree u.1 v.1 = true) (a : Option Addr) (c : Nat) (w : World) (h : Outs w a 2 [ofV u, ofV v]) :
    Ret 5 #[.int .u8 op, .slice a 2 c] w (enc (node op [ofV u, ofV v])) := by
  have HL := Lib.hid h
  have hK : Hid (kind op ([ofV u, ofV v].map (·.k)) = (3, 0)) := by
    have hs : sortOf op = (4, 2) := by
      unfold sortOf
      rw [if_neg (by omega), if_neg (by omega), if_neg (by omega), if_neg (by omega), if_pos (by omega)]
    have ku := vd_kind (show vd u.1 u.2.1 u.2.2 = true from hu)
    have kv := vd_kind (show vd v.1 v.2.1 v.2.2 = true from hv)
    have e1 : decide (u.1 ≤ 3) = true := by simp; omega
    have e2 : decide (v.1 ≤ 3) = true := by simp; omega
    show _ = _
    unfold kind takes
    simp only [hs, List.map_cons, List.map_nil, List.length_cons, List.length_nil, kindOf, List.getD_cons_zero, List.getD_cons_succ, ofV, ha, e1, e2, List.all_cons, List.all_nil]
    rfl
  have hV : Hid ([ofV u, ofV v].all Ot.ok = true) := by show _ = _; simp [ofV_ok hu, ofV_ok hv]
  have hS := Lib.hid (fun W h => c_strict_cmp op h1 h2 u v hu hv ha a c W h)
  have e23 : (op == 23) = false := by simp; omega
  have e24 : (op == 24) = false := by simp; omega
  have e25 : (op == 25) = false := by simp; omega
  have e26 : (op == 26) = false := by simp; omega
  clear h ha hu hv
  go_enter Tryz.func5, Tryz.ntmps5
  go_wp2_with fail
  have HL0 := Lib.hid (HL.out.below (bel_alloc (Below.refl _ w) (.cells #[.int .u8 0, .int .i64 0, .string ⟨#[]⟩, .int .i64 0] 31)))
  refine (c_kindsOf a 2 c [ofV u, ofV v] (by omega) _ HL0.out).mono ?_
  rintro e w1 ⟨⟨a2, rfl, hone⟩, hb1⟩
  have HX1 : Hid (Box w1 w.heap.size nul) := (Box.new w nul).below hb1
  have B1 : Hid (Below w.heap.size w w1) := bel_trans (bel_alloc (Below.refl _ _) _) hb1
  have HO := Lib.hid hone
  clear hb1 hone HL0
  go_wp2_with fail
  refine (c_Kind op a2 2 2 ([ofV u, ofV v].map (·.k)) (Nat.le_refl _) (by omega) (by omega) _ HO.out).mono ?_
  rw [hK.out]
  rintro e w2 ⟨rfl, hb2⟩
  have HX2 := Lib.hid (HX1.out.below hb2)
  have B2 : Hid (Below w.heap.size w w2) := bel_trans B1.out hb2
  clear hb2 HX1 B1 HO
  simp only [kV]
  go_wp2_with fail
  refine (c_areValid a 2 c [ofV u, ofV v] (by omega) _ (HL.out.below B2.out)).mono ?_
  rw [hV.out]
  rintro e w3 ⟨rfl, hb3⟩
  have HX3 := Lib.hid (HX2.out.below hb3)
  have B3 : Hid (Below w.heap.size w w3) := bel_trans B2.out hb3
  clear hb3 HX2 B2
  go_wp2_with fail
  refine (hS.out _ (HL.out.below B3.out)).mono ?_
  rintro e w4 ⟨rfl, hb4⟩
  obtain ⟨hx, d0, d1, d2, d3, e0, e1, e2, e3⟩ := HX3.out.below hb4
  have B4 : Hid (Below w.heap.size w w4) := bel_trans B3.out hb4
  clear hb4
  generalize hz : node op [ofV u, ofV v] = z
  have hz := Lib.hid hz
  go_wp2
  exact bodyPost_ret (v := ov z.k z.n z.s z.e) (by simp [results, Tryz.results5, go_sem, *]) rfl ⟨ret_v (by rw [hz.out]), put4_below B4.out (Nat.le_refl _) _⟩
end Go.Proofs.YtdbhencjomnjhaaGreatDoor.T
