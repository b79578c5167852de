/- Null-strict nodes: arithmetic, texts. -/
import Derived.Test.YtefelelhgepkeaaGreatDoorUb
import Derived.Test.YtefelelhgepkeaaGreatDoorMt
namespace Go.Proofs.YtefelelhgepkeaaGreatDoor.U
open Go.ChangeShapes Go.WideShapes Go.ChangeAt Go.RowKit Go.Proofs.YtefelelhgepkeaaGreatDoor.V Go.Proofs.YtefelelhgepkeaaGreatDoor.K Go.Proofs.YtefelelhgepkeaaGreatDoor.T
set_option maxRecDepth 100000 in
set_option maxHeartbeats 4000000 in
theorem ns_4 (x y : Int) (hx : Fits x) (hy : Fits y) (w : World) : Ret 91 #[.int .u8 4, val 1 x ⟨#[]⟩, val 1 y ⟨#[]⟩] w (enc (numO 4 x y)) := by
  have hC : ∀ w, Ret 110 #[val 1 x ⟨#[]⟩, val 1 y ⟨#[]⟩] w (.int .i64 (cmpI x y)) := fun w => c_Compare_1 x ⟨#[]⟩ y ⟨#[]⟩ (Nat.zero_le _) (Nat.zero_le _) w
  have hT := fun w => c_compute4 x y hx hy w
  generalize cmpI x y = q at hC
  generalize numO 4 x y = z at hT ⊢
  clear hx hy
  go_enter Tryz.func91, Tryz.ntmps91
  go_wp2_with fail
  refine (hC _).mono ?_; rintro e w1 ⟨rfl, hbw1⟩; obtain ⟨hcw1, hfw1⟩ := bcell hbw1; have hzw1 := hbw1.size; (try simp at hzw1); have hk0w1 : w.heap.size < w1.heap.size := (by omega); have hk1w1 : w.heap.size + 1 < w1.heap.size := (by omega); have hk2w1 : w.heap.size + 1 + 1 < w1.heap.size := (by omega)
  go_wp2_with fail
  refine (hT _).mono ?_; rintro e w2 ⟨rfl, hbw2⟩; obtain ⟨hcw2, hfw2⟩ := bcell hbw2; have hzw2 := hbw2.size; (try simp at hzw2); have hk0w2 : w.heap.size < w2.heap.size := (by omega); have hk1w2 : w.heap.size + 1 < w2.heap.size := (by omega); have hk2w2 : w.heap.size + 1 + 1 < w2.heap.size := (by omega)
  go_wp2
  exact bodyPost_ret (v := ov z.k z.n z.s z.e) (by simp [results, Tryz.results91, go_sem, *]) rfl ⟨rfl, by repeat (first | exact Below.refl _ _ | assumption | exact Go.Proofs.YtefelelhgepkeaaGreatDoor.V.below_drewN _ _ | (refine bel_trans ?_ (Go.Proofs.YtefelelhgepkeaaGreatDoor.V.below_drewN _ _)) | (refine bel_trans ?_ (by assumption)) | (with_reducible apply bel_alloc) | (with_reducible apply Below.drew) | apply bel_alloc | apply Below.drew | refine bel_set ?_ (by simp; try omega) _)⟩
set_option maxRecDepth 100000 in
set_option maxHeartbeats 4000000 in
theorem ns_5 (x y : Int) (hx : Fits x) (hy : Fits y) (w : World) : Ret 91 #[.int .u8 5, val 1 x ⟨#[]⟩, val 1 y ⟨#[]⟩] w (enc (numO 5 x y)) := by
  have hC : ∀ w, Ret 110 #[val 1 x ⟨#[]⟩, val 1 y ⟨#[]⟩] w (.int .i64 (cmpI x y)) := fun w => c_Compare_1 x ⟨#[]⟩ y ⟨#[]⟩ (Nat.zero_le _) (Nat.zero_le _) w
  have hT := fun w => c_compute5 x y hx hy w
  generalize cmpI x y = q at hC
  generalize numO 5 x y = z at hT ⊢
  clear hx hy
  go_enter Tryz.func91, Tryz.ntmps91
  go_wp2_with fail
  refine (hC _).mono ?_; rintro e w1 ⟨rfl, hbw1⟩; obtain ⟨hcw1, hfw1⟩ := bcell hbw1; have hzw1 := hbw1.size; (try simp at hzw1); have hk0w1 : w.heap.size < w1.heap.size := (by omega); have hk1w1 : w.heap.size + 1 < w1.heap.size := (by omega); have hk2w1 : w.heap.size + 1 + 1 < w1.heap.size := (by omega)
  go_wp2_with fail
  refine (hT _).mono ?_; rintro e w2 ⟨rfl, hbw2⟩; obtain ⟨hcw2, hfw2⟩ := bcell hbw2; have hzw2 := hbw2.size; (try simp at hzw2); have hk0w2 : w.heap.size < w2.heap.size := (by omega); have hk1w2 : w.heap.size + 1 < w2.heap.size := (by omega); have hk2w2 : w.heap.size + 1 + 1 < w2.heap.size := (by omega)
  go_wp2
  exact bodyPost_ret (v := ov z.k z.n z.s z.e) (by simp [results, Tryz.results91, go_sem, *]) rfl ⟨rfl, by repeat (first | exact Below.refl _ _ | assumption | exact Go.Proofs.YtefelelhgepkeaaGreatDoor.V.below_drewN _ _ | (refine bel_trans ?_ (Go.Proofs.YtefelelhgepkeaaGreatDoor.V.below_drewN _ _)) | (refine bel_trans ?_ (by assumption)) | (with_reducible apply bel_alloc) | (with_reducible apply Below.drew) | apply bel_alloc | apply Below.drew | refine bel_set ?_ (by simp; try omega) _)⟩
set_option maxRecDepth 100000 in
set_option maxHeartbeats 4000000 in
theorem ns_6 (x y : Int) (hx : Fits x) (hy : Fits y) (w : World) : Ret 91 #[.int .u8 6, val 1 x ⟨#[]⟩, val 1 y ⟨#[]⟩] w (enc (numO 6 x y)) := by
  have hC : ∀ w, Ret 110 #[val 1 x ⟨#[]⟩, val 1 y ⟨#[]⟩] w (.int .i64 (cmpI x y)) := fun w => c_Compare_1 x ⟨#[]⟩ y ⟨#[]⟩ (Nat.zero_le _) (Nat.zero_le _) w
  have hT := fun w => c_compute6 x y hx hy w
  generalize cmpI x y = q at hC
  generalize numO 6 x y = z at hT ⊢
  clear hx hy
  go_enter Tryz.func91, Tryz.ntmps91
  go_wp2_with fail
  refine (hC _).mono ?_; rintro e w1 ⟨rfl, hbw1⟩; obtain ⟨hcw1, hfw1⟩ := bcell hbw1; have hzw1 := hbw1.size; (try simp at hzw1); have hk0w1 : w.heap.size < w1.heap.size := (by omega); have hk1w1 : w.heap.size + 1 < w1.heap.size := (by omega); have hk2w1 : w.heap.size + 1 + 1 < w1.heap.size := (by omega)
  go_wp2_with fail
  refine (hT _).mono ?_; rintro e w2 ⟨rfl, hbw2⟩; obtain ⟨hcw2, hfw2⟩ := bcell hbw2; have hzw2 := hbw2.size; (try simp at hzw2); have hk0w2 : w.heap.size < w2.heap.size := (by omega); have hk1w2 : w.heap.size + 1 < w2.heap.size := (by omega); have hk2w2 : w.heap.size + 1 + 1 < w2.heap.size := (by omega)
  go_wp2
  exact bodyPost_ret (v := ov z.k z.n z.s z.e) (by simp [results, Tryz.results91, go_sem, *]) rfl ⟨rfl, by repeat (first | exact Below.refl _ _ | assumption | exact Go.Proofs.YtefelelhgepkeaaGreatDoor.V.below_drewN _ _ | (refine bel_trans ?_ (Go.Proofs.YtefelelhgepkeaaGreatDoor.V.below_drewN _ _)) | (refine bel_trans ?_ (by assumption)) | (with_reducible apply bel_alloc) | (with_reducible apply Below.drew) | apply bel_alloc | apply Below.drew | refine bel_set ?_ (by simp; try omega) _)⟩
set_option maxRecDepth 100000 in
set_option maxHeartbeats 4000000 in
theorem ns_7 (x y : Int) (hx : Fits x) (hy : Fits y) (w : World) : Ret 91 #[.int .u8 7, val 1 x ⟨#[]⟩, val 1 y ⟨#[]⟩] w (enc (numO 7 x y)) := by
  have hC : ∀ w, Ret 110 #[val 1 x ⟨#[]⟩, val 1 y ⟨#[]⟩] w (.int .i64 (cmpI x y)) := fun w => c_Compare_1 x ⟨#[]⟩ y ⟨#[]⟩ (Nat.zero_le _) (Nat.zero_le _) w
  have hT := fun w => c_compute7 x y hx hy w
  generalize cmpI x y = q at hC
  generalize numO 7 x y = z at hT ⊢
  clear hx hy
  go_enter Tryz.func91, Tryz.ntmps91
  go_wp2_with fail
  refine (hC _).mono ?_; rintro e w1 ⟨rfl, hbw1⟩; obtain ⟨hcw1, hfw1⟩ := bcell hbw1; have hzw1 := hbw1.size; (try simp at hzw1); have hk0w1 : w.heap.size < w1.heap.size := (by omega); have hk1w1 : w.heap.size + 1 < w1.heap.size := (by omega); have hk2w1 : w.heap.size + 1 + 1 < w1.heap.size := (by omega)
  go_wp2_with fail
  refine (hT _).mono ?_; rintro e w2 ⟨rfl, hbw2⟩; obtain ⟨hcw2, hfw2⟩ := bcell hbw2; have hzw2 := hbw2.size; (try simp at hzw2); have hk0w2 : w.heap.size < w2.heap.size := (by omega); have hk1w2 : w.heap.size + 1 < w2.heap.size := (by omega); have hk2w2 : w.heap.size + 1 + 1 < w2.heap.size := (by omega)
  go_wp2
  exact bodyPost_ret (v := ov z.k z.n z.s z.e) (by simp [results, Tryz.results91, go_sem, *]) rfl ⟨rfl, by repeat (first | exact Below.refl _ _ | assumption | exact Go.Proofs.YtefelelhgepkeaaGreatDoor.V.below_drewN _ _ | (refine bel_trans ?_ (Go.Proofs.YtefelelhgepkeaaGreatDoor.V.below_drewN _ _)) | (refine bel_trans ?_ (by assumption)) | (with_reducible apply bel_alloc) | (with_reducible apply Below.drew) | apply bel_alloc | apply Below.drew | refine bel_set ?_ (by simp; try omega) _)⟩
set_option maxRecDepth 100000 in
set_option maxHeartbeats 4000000 in
theorem ns_8 (x y : Int) (hx : Fits x) (hy : Fits y) (w : World) : Ret 91 #[.int .u8 8, val 1 x ⟨#[]⟩, val 1 y ⟨#[]⟩] w (enc (numO 8 x y)) := by
  have hC : ∀ w, Ret 110 #[val 1 x ⟨#[]⟩, val 1 y ⟨#[]⟩] w (.int .i64 (cmpI x y)) := fun w => c_Compare_1 x ⟨#[]⟩ y ⟨#[]⟩ (Nat.zero_le _) (Nat.zero_le _) w
  have hT := fun w => c_compute8 x y hx hy w
  generalize cmpI x y = q at hC
  generalize numO 8 x y = z at hT ⊢
  clear hx hy
  go_enter Tryz.func91, Tryz.ntmps91
  go_wp2_with fail
  refine (hC _).mono ?_; rintro e w1 ⟨rfl, hbw1⟩; obtain ⟨hcw1, hfw1⟩ := bcell hbw1; have hzw1 := hbw1.size; (try simp at hzw1); have hk0w1 : w.heap.size < w1.heap.size := (by omega); have hk1w1 : w.heap.size + 1 < w1.heap.size := (by omega); have hk2w1 : w.heap.size + 1 + 1 < w1.heap.size := (by omega)
  go_wp2_with fail
  refine (hT _).mono ?_; rintro e w2 ⟨rfl, hbw2⟩; obtain ⟨hcw2, hfw2⟩ := bcell hbw2; have hzw2 := hbw2.size; (try simp at hzw2); have hk0w2 : w.heap.size < w2.heap.size := (by omega); have hk1w2 : w.heap.size + 1 < w2.heap.size := (by omega); have hk2w2 : w.heap.size + 1 + 1 < w2.heap.size := (by omega)
  go_wp2
  exact bodyPost_ret (v := ov z.k z.n z.s z.e) (by simp [results, Tryz.results91, go_sem, *]) rfl ⟨rfl, by repeat (first | exact Below.refl _ _ | assumption | exact Go.Proofs.YtefelelhgepkeaaGreatDoor.V.below_drewN _ _ | (refine bel_trans ?_ (Go.Proofs.YtefelelhgepkeaaGreatDoor.V.below_drewN _ _)) | (refine bel_trans ?_ (by assumption)) | (with_reducible apply bel_alloc) | (with_reducible apply Below.drew) | apply bel_alloc | apply Below.drew | refine bel_set ?_ (by simp; try omega) _)⟩
set_option maxRecDepth 100000 in
set_option maxHeartbeats 4000000 in
theorem ns_9 (x y : Int) (hx : Fits x) (hy : Fits y) (w : World) : Ret 91 #[.int .u8 9, val 1 x ⟨#[]⟩, val 1 y ⟨#[]⟩] w (enc (numO 9 x y)) := by
  have hC : ∀ w, Ret 110 #[val 1 x ⟨#[]⟩, val 1 y ⟨#[]⟩] w (.int .i64 (cmpI x y)) := fun w => c_Compare_1 x ⟨#[]⟩ y ⟨#[]⟩ (Nat.zero_le _) (Nat.zero_le _) w
  have hT := fun w => c_compute9 x y hx hy w
  generalize cmpI x y = q at hC
  generalize numO 9 x y = z at hT ⊢
  clear hx hy
  go_enter Tryz.func91, Tryz.ntmps91
  go_wp2_with fail
  refine (hC _).mono ?_; rintro e w1 ⟨rfl, hbw1⟩; obtain ⟨hcw1, hfw1⟩ := bcell hbw1; have hzw1 := hbw1.size; (try simp at hzw1); have hk0w1 : w.heap.size < w1.heap.size := (by omega); have hk1w1 : w.heap.size + 1 < w1.heap.size := (by omega); have hk2w1 : w.heap.size + 1 + 1 < w1.heap.size := (by omega)
  go_wp2_with fail
  refine (hT _).mono ?_; rintro e w2 ⟨rfl, hbw2⟩; obtain ⟨hcw2, hfw2⟩ := bcell hbw2; have hzw2 := hbw2.size; (try simp at hzw2); have hk0w2 : w.heap.size < w2.heap.size := (by omega); have hk1w2 : w.heap.size + 1 < w2.heap.size := (by omega); have hk2w2 : w.heap.size + 1 + 1 < w2.heap.size := (by omega)
  go_wp2
  exact bodyPost_ret (v := ov z.k z.n z.s z.e) (by simp [results, Tryz.results91, go_sem, *]) rfl ⟨rfl, by repeat (first | exact Below.refl _ _ | assumption | exact Go.Proofs.YtefelelhgepkeaaGreatDoor.V.below_drewN _ _ | (refine bel_trans ?_ (Go.Proofs.YtefelelhgepkeaaGreatDoor.V.below_drewN _ _)) | (refine bel_trans ?_ (by assumption)) | (with_reducible apply bel_alloc) | (with_reducible apply Below.drew) | apply bel_alloc | apply Below.drew | refine bel_set ?_ (by simp; try omega) _)⟩
set_option maxRecDepth 100000 in
set_option maxHeartbeats 4000000 in
theorem ns_19 (s p : ByteArray) (hs : s.size ≤ 100) (hp : p.size ≤ 100) (w : World) : Ret 91 #[.int .u8 19, val 2 0 s, val 2 0 p] w (enc (bo (matchB s p))) := by
  have hC : ∀ w, Ret 110 #[val 2 0 s, val 2 0 p] w (.int .i64 (cmpT s p)) := fun w => c_Compare_2 0 s 0 p (by unfold maxLen; omega) (by unfold maxLen; omega) w
  generalize cmpT s p = q at hC
  have hM := fun w => c_Matches s p (by unfold maxLen; omega) (by unfold maxLen; omega) w
  generalize matchB s p = b at hM ⊢
  have hT := fun w => c_truth b w
  have hz : (bo b).k = 3 ∧ (bo b).n = (if b then 1 else 0) ∧ (bo b).s = ⟨#[]⟩ ∧ (bo b).e = 0 := ⟨rfl, rfl, rfl, rfl⟩
  generalize (if b = true then 1 else 0 : Int) = m at hT hz
  obtain ⟨h1, h2, h3, h4⟩ := hz
  show Ret 91 _ _ (ov (bo b).k (bo b).n (bo b).s (bo b).e)
  rw [h1, h2, h3, h4]
  clear h1 h2 h3 h4 hs hp
  go_enter Tryz.func91, Tryz.ntmps91
  go_wp2_with fail
  refine (hC _).mono ?_; rintro e w1 ⟨rfl, hbw1⟩; obtain ⟨hcw1, hfw1⟩ := bcell hbw1; have hzw1 := hbw1.size; (try simp at hzw1); have hk0w1 : w.heap.size < w1.heap.size := (by omega); have hk1w1 : w.heap.size + 1 < w1.heap.size := (by omega); have hk2w1 : w.heap.size + 1 + 1 < w1.heap.size := (by omega)
  go_wp2_with fail
  refine (hM _).mono ?_; rintro e w2 ⟨rfl, hbw2⟩; obtain ⟨hcw2, hfw2⟩ := bcell hbw2; have hzw2 := hbw2.size; (try simp at hzw2); have hk0w2 : w.heap.size < w2.heap.size := (by omega); have hk1w2 : w.heap.size + 1 < w2.heap.size := (by omega); have hk2w2 : w.heap.size + 1 + 1 < w2.heap.size := (by omega)
  go_wp2_with fail
  refine (hT _).mono ?_; rintro e w3 ⟨rfl, hbw3⟩; obtain ⟨hcw3, hfw3⟩ := bcell hbw3; have hzw3 := hbw3.size; (try simp at hzw3); have hk0w3 : w.heap.size < w3.heap.size := (by omega); have hk1w3 : w.heap.size + 1 < w3.heap.size := (by omega); have hk2w3 : w.heap.size + 1 + 1 < w3.heap.size := (by omega)
  go_wp2
  exact bodyPost_ret (v := ov 3 m ⟨#[]⟩ 0) (by simp [results, Tryz.results91, go_sem, *]) rfl ⟨rfl, by repeat (first | exact Below.refl _ _ | assumption | exact Go.Proofs.YtefelelhgepkeaaGreatDoor.V.below_drewN _ _ | (refine bel_trans ?_ (Go.Proofs.YtefelelhgepkeaaGreatDoor.V.below_drewN _ _)) | (refine bel_trans ?_ (by assumption)) | (with_reducible apply bel_alloc) | (with_reducible apply Below.drew) | apply bel_alloc | apply Below.drew | refine bel_set ?_ (by simp; try omega) _)⟩
set_option maxRecDepth 100000 in
set_option maxHeartbeats 4000000 in
theorem ns_11 (s : ByteArray) (hs : s.size ≤ 100) (w : World) : Ret 91 #[.int .u8 11, val 2 0 s, val 2 0 s] w (ov 1 (s.size : Int) ⟨#[]⟩ 0) := by
  have hC : ∀ w, Ret 110 #[val 2 0 s, val 2 0 s] w (.int .i64 (cmpT s s)) := fun w => c_Compare_2 0 s 0 s (by unfold maxLen; omega) (by unfold maxLen; omega) w
  generalize cmpT s s = q at hC
  have hT := fun w => c_Int (s.size : Int) w
  go_enter Tryz.func91, Tryz.ntmps91
  go_wp2_with fail
  refine (hC _).mono ?_; rintro e w1 ⟨rfl, hbw1⟩; obtain ⟨hcw1, hfw1⟩ := bcell hbw1; have hzw1 := hbw1.size; (try simp at hzw1); have hk0w1 : w.heap.size < w1.heap.size := (by omega); have hk1w1 : w.heap.size + 1 < w1.heap.size := (by omega); have hk2w1 : w.heap.size + 1 + 1 < w1.heap.size := (by omega)
  go_wp2_with fail
  refine (hT _).mono ?_; rintro e w2 ⟨rfl, hbw2⟩; obtain ⟨hcw2, hfw2⟩ := bcell hbw2; have hzw2 := hbw2.size; (try simp at hzw2); have hk0w2 : w.heap.size < w2.heap.size := (by omega); have hk1w2 : w.heap.size + 1 < w2.heap.size := (by omega); have hk2w2 : w.heap.size + 1 + 1 < w2.heap.size := (by omega)
  go_wp2
  exact bodyPost_ret (v := ov 1 (s.size : Int) ⟨#[]⟩ 0) (by simp [results, Tryz.results91, go_sem, *]) rfl ⟨rfl, by repeat (first | exact Below.refl _ _ | assumption | exact Go.Proofs.YtefelelhgepkeaaGreatDoor.V.below_drewN _ _ | (refine bel_trans ?_ (Go.Proofs.YtefelelhgepkeaaGreatDoor.V.below_drewN _ _)) | (refine bel_trans ?_ (by assumption)) | (with_reducible apply bel_alloc) | (with_reducible apply Below.drew) | apply bel_alloc | apply Below.drew | refine bel_set ?_ (by simp; try omega) _)⟩
set_option maxRecDepth 100000 in
set_option maxHeartbeats 4000000 in
theorem ns_10 (s p : ByteArray) (hs : s.size ≤ 100) (hp : p.size ≤ 100) (w : World) : Ret 91 #[.int .u8 10, val 2 0 s, val 2 0 p] w (enc (textO (s ++ p))) := by
  have hC : ∀ w, Ret 110 #[val 2 0 s, val 2 0 p] w (.int .i64 (cmpT s p)) := fun w => c_Compare_2 0 s 0 p (by unfold maxLen; omega) (by unfold maxLen; omega) w
  generalize cmpT s p = q at hC
  have hT := fun w => c_Text (s ++ p) w
  unfold textO
  by_cases hl : 100 < (s ++ p).size
  · rw [if_pos hl]
    rw [show textOf (s ++ p) = .tuple #[val 0 0 ⟨#[]⟩, .int .i64 5] from if_pos hl] at hT
    clear hl
    go_enter Tryz.func91, Tryz.ntmps91
    go_wp2_with fail
    refine (hC _).mono ?_; rintro e w1 ⟨rfl, hbw1⟩; obtain ⟨hcw1, hfw1⟩ := bcell hbw1; have hzw1 := hbw1.size; (try simp at hzw1); have hk0w1 : w.heap.size < w1.heap.size := (by omega); have hk1w1 : w.heap.size + 1 < w1.heap.size := (by omega); have hk2w1 : w.heap.size + 1 + 1 < w1.heap.size := (by omega)
    go_wp2_with fail
    refine (hT _).mono ?_; rintro e w2 ⟨rfl, hbw2⟩; obtain ⟨hcw2, hfw2⟩ := bcell hbw2; have hzw2 := hbw2.size; (try simp at hzw2); have hk0w2 : w.heap.size < w2.heap.size := (by omega); have hk1w2 : w.heap.size + 1 < w2.heap.size := (by omega); have hk2w2 : w.heap.size + 1 + 1 < w2.heap.size := (by omega)
    go_wp2
    exact bodyPost_ret (v := ov 0 0 ⟨#[]⟩ 5) (by simp [results, Tryz.results91, go_sem, *]) rfl ⟨rfl, by repeat (first | exact Below.refl _ _ | assumption | exact Go.Proofs.YtefelelhgepkeaaGreatDoor.V.below_drewN _ _ | (refine bel_trans ?_ (Go.Proofs.YtefelelhgepkeaaGreatDoor.V.below_drewN _ _)) | (refine bel_trans ?_ (by assumption)) | (with_reducible apply bel_alloc) | (with_reducible apply Below.drew) | apply bel_alloc | apply Below.drew | refine bel_set ?_ (by simp; try omega) _)⟩
  · rw [if_neg hl]
    rw [show textOf (s ++ p) = .tuple #[val 2 0 (s ++ p), .int .i64 0] from if_neg hl] at hT
    clear hl
    go_enter Tryz.func91, Tryz.ntmps91
    go_wp2_with fail
    refine (hC _).mono ?_; rintro e w1 ⟨rfl, hbw1⟩; obtain ⟨hcw1, hfw1⟩ := bcell hbw1; have hzw1 := hbw1.size; (try simp at hzw1); have hk0w1 : w.heap.size < w1.heap.size := (by omega); have hk1w1 : w.heap.size + 1 < w1.heap.size := (by omega); have hk2w1 : w.heap.size + 1 + 1 < w1.heap.size := (by omega)
    go_wp2_with fail
    refine (hT _).mono ?_; rintro e w2 ⟨rfl, hbw2⟩; obtain ⟨hcw2, hfw2⟩ := bcell hbw2; have hzw2 := hbw2.size; (try simp at hzw2); have hk0w2 : w.heap.size < w2.heap.size := (by omega); have hk1w2 : w.heap.size + 1 < w2.heap.size := (by omega); have hk2w2 : w.heap.size + 1 + 1 < w2.heap.size := (by omega)
    go_wp2
    exact bodyPost_ret (v := ov 2 0 (s ++ p) 0) (by simp [results, Tryz.results91, go_sem, *]) rfl ⟨rfl, by repeat (first | exact Below.refl _ _ | assumption | exact Go.Proofs.YtefelelhgepkeaaGreatDoor.V.below_drewN _ _ | (refine bel_trans ?_ (Go.Proofs.YtefelelhgepkeaaGreatDoor.V.below_drewN _ _)) | (refine bel_trans ?_ (by assumption)) | (with_reducible apply bel_alloc) | (with_reducible apply Below.drew) | apply bel_alloc | apply Below.drew | refine bel_set ?_ (by simp; try omega) _)⟩
end Go.Proofs.YtefelelhgepkeaaGreatDoor.U
