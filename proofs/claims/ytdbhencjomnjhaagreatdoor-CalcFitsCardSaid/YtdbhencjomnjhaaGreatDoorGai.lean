/- Null-strict nodes: arithmetic, texts. -/
import Derived.Test.YtdbhencjomnjhaaGreatDoorGah
import Derived.Test.YtdbhencjomnjhaaGreatDoorGaf
namespace Go.Proofs.YtdbhencjomnjhaaGreatDoor.U
open Go.ChangeShapes Go.WideShapes Go.ChangeAt Go.RowKit Go.Proofs.YtdbhencjomnjhaaGreatDoor.V Go.Proofs.YtdbhencjomnjhaaGreatDoor.K Go.Proofs.YtdbhencjomnjhaaGreatDoor.T
set_option maxRecDepth 100000 in
set_option maxHeartbeats 4000000 in
theorem ns_4 (x y : Int) (hx : Fits x) (hy : Fits y) (w : World) : Ret 43 #[.int .u8 4, val 1 x ⟨#[]⟩, val 1 y ⟨#[]⟩] w (enc (numO 4 x y)) := by
  have hC : ∀ w, Ret 57 #[val 1 x ⟨#[]⟩, val 1 y ⟨#[]⟩] w (.int .i64 (cmpI x y)) := fun w => c_Compare_1 x ⟨#[]⟩ y ⟨#[]⟩ (Nat.zero_le _) (Nat.zero_le _) w
  have hT := fun w => c_compute4 x y hx hy w
  generalize cmpI x y = q at hC
  generalize numO 4 x y = z at hT ⊢
  clear hx hy
  go_enter Tryz.func43, Tryz.ntmps43
  go_wp2_with fail
  refine (hC _).mono ?_; rintro e w1 ⟨rfl, hbw1⟩; obtain ⟨hcw1, hfw1⟩ := bcell hbw1; have hzw1 := hbw1.size; (try simp at hzw1); have hk0w1 : w.heap.size < w1.heap.size := (by omega); have hk1w1 : w.heap.size + 1 < w1.heap.size := (by omega); have hk2w1 : w.heap.size + 1 + 1 < w1.heap.size := (by omega)
  go_wp2_with fail
  refine (hT _).mono ?_; rintro e w2 ⟨rfl, hbw2⟩; obtain ⟨hcw2, hfw2⟩ := bcell hbw2; have hzw2 := hbw2.size; (try simp at hzw2); have hk0w2 : w.heap.size < w2.heap.size := (by omega); have hk1w2 : w.heap.size + 1 < w2.heap.size := (by omega); have hk2w2 : w.heap.size + 1 + 1 < w2.heap.size := (by omega)
  go_wp2
  exact bodyPost_ret (v := ov z.k z.n z.s z.e) (by simp [results, Tryz.results43, go_sem, *]) rfl ⟨rfl, by repeat (first | exact Below.refl _ _ | assumption | exact Go.Proofs.YtdbhencjomnjhaaGreatDoor.V.below_drewN _ _ | (refine bel_trans ?_ (Go.Proofs.YtdbhencjomnjhaaGreatDoor.V.below_drewN _ _)) | (refine bel_trans ?_ (by assumption)) | (with_reducible apply bel_alloc) | (with_reducible apply Below.drew) | apply bel_alloc | apply Below.drew | refine bel_set ?_ (by simp; try omega) _)⟩
set_option maxRecDepth 100000 in
set_option maxHeartbeats 4000000 in
theorem ns_5 (x y : Int) (hx : Fits x) (hy : Fits y) (w : World) : Ret 43 #[.int .u8 5, val 1 x ⟨#[]⟩, val 1 y ⟨#[]⟩] w (enc (numO 5 x y)) := by
  have hC : ∀ w, Ret 57 #[val 1 x ⟨#[]⟩, val 1 y ⟨#[]⟩] w (.int .i64 (cmpI x y)) := fun w => c_Compare_1 x ⟨#[]⟩ y ⟨#[]⟩ (Nat.zero_le _) (Nat.zero_le _) w
  have hT := fun w => c_compute5 x y hx hy w
  generalize cmpI x y = q at hC
  generalize numO 5 x y = z at hT ⊢
  clear hx hy
  go_enter Tryz.func43, Tryz.ntmps43
  go_wp2_with fail
  refine (hC _).mono ?_; rintro e w1 ⟨rfl, hbw1⟩; obtain ⟨hcw1, hfw1⟩ := bcell hbw1; have hzw1 := hbw1.size; (try simp at hzw1); have hk0w1 : w.heap.size < w1.heap.size := (by omega); have hk1w1 : w.heap.size + 1 < w1.heap.size := (by omega); have hk2w1 : w.heap.size + 1 + 1 < w1.heap.size := (by omega)
  go_wp2_with fail
  refine (hT _).mono ?_; rintro e w2 ⟨rfl, hbw2⟩; obtain ⟨hcw2, hfw2⟩ := bcell hbw2; have hzw2 := hbw2.size; (try simp at hzw2); have hk0w2 : w.heap.size < w2.heap.size := (by omega); have hk1w2 : w.heap.size + 1 < w2.heap.size := (by omega); have hk2w2 : w.heap.size + 1 + 1 < w2.heap.size := (by omega)
  go_wp2
  exact bodyPost_ret (v := ov z.k z.n z.s z.e) (by simp [results, Tryz.results43, go_sem, *]) rfl ⟨rfl, by repeat (first | exact Below.refl _ _ | assumption | exact Go.Proofs.YtdbhencjomnjhaaGreatDoor.V.below_drewN _ _ | (refine bel_trans ?_ (Go.Proofs.YtdbhencjomnjhaaGreatDoor.V.below_drewN _ _)) | (refine bel_trans ?_ (by assumption)) | (with_reducible apply bel_alloc) | (with_reducible apply Below.drew) | apply bel_alloc | apply Below.drew | refine bel_set ?_ (by simp; try omega) _)⟩
set_option maxRecDepth 100000 in
set_option maxHeartbeats 4000000 in
theorem ns_6 (x y : Int) (hx : Fits x) (hy : Fits y) (w : World) : Ret 43 #[.int .u8 6, val 1 x ⟨#[]⟩, val 1 y ⟨#[]⟩] w (enc (numO 6 x y)) := by
  have hC : ∀ w, Ret 57 #[val 1 x ⟨#[]⟩, val 1 y ⟨#[]⟩] w (.int .i64 (cmpI x y)) := fun w => c_Compare_1 x ⟨#[]⟩ y ⟨#[]⟩ (Nat.zero_le _) (Nat.zero_le _) w
  have hT := fun w => c_compute6 x y hx hy w
  generalize cmpI x y = q at hC
  generalize numO 6 x y = z at hT ⊢
  clear hx hy
  go_enter Tryz.func43, Tryz.ntmps43
  go_wp2_with fail
  refine (hC _).mono ?_; rintro e w1 ⟨rfl, hbw1⟩; obtain ⟨hcw1, hfw1⟩ := bcell hbw1; have hzw1 := hbw1.size; (try simp at hzw1); have hk0w1 : w.heap.size < w1.heap.size := (by omega); have hk1w1 : w.heap.size + 1 < w1.heap.size := (by omega); have hk2w1 : w.heap.size + 1 + 1 < w1.heap.size := (by omega)
  go_wp2_with fail
  refine (hT _).mono ?_; rintro e w2 ⟨rfl, hbw2⟩; obtain ⟨hcw2, hfw2⟩ := bcell hbw2; have hzw2 := hbw2.size; (try simp at hzw2); have hk0w2 : w.heap.size < w2.heap.size := (by omega); have hk1w2 : w.heap.size + 1 < w2.heap.size := (by omega); have hk2w2 : w.heap.size + 1 + 1 < w2.heap.size := (by omega)
  go_wp2
  exact bodyPost_ret (v := ov z.k z.n z.s z.e) (by simp [results, Tryz.results43, go_sem, *]) rfl ⟨rfl, by repeat (first | exact Below.refl _ _ | assumption | exact Go.Proofs.YtdbhencjomnjhaaGreatDoor.V.below_drewN _ _ | (refine bel_trans ?_ (Go.Proofs.YtdbhencjomnjhaaGreatDoor.V.below_drewN _ _)) | (refine bel_trans ?_ (by assumption)) | (with_reducible apply bel_alloc) | (with_reducible apply Below.drew) | apply bel_alloc | apply Below.drew | refine bel_set ?_ (by simp; try omega) _)⟩
set_option maxRecDepth 100000 in
set_option maxHeartbeats 4000000 in
theorem ns_7 (x y : Int) (hx : Fits x) (hy : Fits y) (w : World) : Ret 43 #[.int .u8 7, val 1 x ⟨#[]⟩, val 1 y ⟨#[]⟩] w (enc (numO 7 x y)) := by
  have hC : ∀ w, Ret 57 #[val 1 x ⟨#[]⟩, val 1 y ⟨#[]⟩] w (.int .i64 (cmpI x y)) := fun w => c_Compare_1 x ⟨#[]⟩ y ⟨#[]⟩ (Nat.zero_le _) (Nat.zero_le _) w
  have hT := fun w => c_compute7 x y hx hy w
  generalize cmpI x y = q at hC
  generalize numO 7 x y = z at hT ⊢
  clear hx hy
  go_enter Tryz.func43, Tryz.ntmps43
  go_wp2_with fail
  refine (hC _).mono ?_; rintro e w1 ⟨rfl, hbw1⟩; obtain ⟨hcw1, hfw1⟩ := bcell hbw1; have hzw1 := hbw1.size; (try simp at hzw1); have hk0w1 : w.heap.size < w1.heap.size := (by omega); have hk1w1 : w.heap.size + 1 < w1.heap.size := (by omega); have hk2w1 : w.heap.size + 1 + 1 < w1.heap.size := (by omega)
  go_wp2_with fail
  refine (hT _).mono ?_; rintro e w2 ⟨rfl, hbw2⟩; obtain ⟨hcw2, hfw2⟩ := bcell hbw2; have hzw2 := hbw2.size; (try simp at hzw2); have hk0w2 : w.heap.size < w2.heap.size := (by omega); have hk1w2 : w.heap.size + 1 < w2.heap.size := (by omega); have hk2w2 : w.heap.size + 1 + 1 < w2.heap.size := (by omega)
  go_wp2
  exact bodyPost_ret (v := ov z.k z.n z.s z.e) (by simp [results, Tryz.results43, go_sem, *]) rfl ⟨rfl, by repeat (first | exact Below.refl _ _ | assumption | exact Go.Proofs.YtdbhencjomnjhaaGreatDoor.V.below_drewN _ _ | (refine bel_trans ?_ (Go.Proofs.YtdbhencjomnjhaaGreatDoor.V.below_drewN _ _)) | (refine bel_trans ?_ (by assumption)) | (with_reducible apply bel_alloc) | (with_reducible apply Below.drew) | apply bel_alloc | apply Below.drew | refine bel_set ?_ (by simp; try omega) _)⟩
set_option maxRecDepth 100000 in
set_option maxHeartbeats 4000000 in
theorem ns_8 (x y : Int) (hx : Fits x) (hy : Fits y) (w : World) : Ret 43 #[.int .u8 8, val 1 x ⟨#[]⟩, val 1 y ⟨#[]⟩] w (enc (numO 8 x y)) := by
  have hC : ∀ w, Ret 57 #[val 1 x ⟨#[]⟩, val 1 y ⟨#[]⟩] w (.int .i64 (cmpI x y)) := fun w => c_Compare_1 x ⟨#[]⟩ y ⟨#[]⟩ (Nat.zero_le _) (Nat.zero_le _) w
  have hT := fun w => c_compute8 x y hx hy w
  generalize cmpI x y = q at hC
  generalize numO 8 x y = z at hT ⊢
  clear hx hy
  go_enter Tryz.func43, Tryz.ntmps43
  go_wp2_with fail
  refine (hC _).mono ?_; rintro e w1 ⟨rfl, hbw1⟩; obtain ⟨hcw1, hfw1⟩ := bcell hbw1; have hzw1 := hbw1.size; (try simp at hzw1); have hk0w1 : w.heap.size < w1.heap.size := (by omega); have hk1w1 : w.heap.size + 1 < w1.heap.size := (by omega); have hk2w1 : w.heap.size + 1 + 1 < w1.heap.size := (by omega)
  go_wp2_with fail
  refine (hT _).mono ?_; rintro e w2 ⟨rfl, hbw2⟩; obtain ⟨hcw2, hfw2⟩ := bcell hbw2; have hzw2 := hbw2.size; (try simp at hzw2); have hk0w2 : w.heap.size < w2.heap.size := (by omega); have hk1w2 : w.heap.size + 1 < w2.heap.size := (by omega); have hk2w2 : w.heap.size + 1 + 1 < w2.heap.size := (by omega)
  go_wp2
  exact bodyPost_ret (v := ov z.k z.n z.s z.e) (by simp [results, Tryz.results43, go_sem, *]) rfl ⟨rfl, by repeat (first | exact Below.refl _ _ | assumption | exact Go.Proofs.YtdbhencjomnjhaaGreatDoor.V.below_drewN _ _ | (refine bel_trans ?_ (Go.Proofs.YtdbhencjomnjhaaGreatDoor.V.below_drewN _ _)) | (refine bel_trans ?_ (by assumption)) | (with_reducible apply bel_alloc) | (with_reducible apply Below.drew) | apply bel_alloc | apply Below.drew | refine bel_set ?_ (by simp; try omega) _)⟩
set_option maxRecDepth 100000 in
set_option maxHeartbeats 4000000 in
theorem ns_9 (x y : Int) (hx : Fits x) (hy : Fits y) (w : World) : Ret 43 #[.int .u8 9, val 1 x ⟨#[]⟩, val 1 y ⟨#[]⟩] w (enc (numO 9 x y)) := by
  have hC : ∀ w, Ret 57 #[val 1 x ⟨#[]⟩, val 1 y ⟨#[]⟩] w (.int .i64 (cmpI x y)) := fun w => c_Compare_1 x ⟨#[]⟩ y ⟨#[]⟩ (Nat.zero_le _) (Nat.zero_le _) w
  have hT := fun w => c_compute9 x y hx hy w
  generalize cmpI x y = q at hC
  generalize numO 9 x y = z at hT ⊢
  clear hx hy
  go_enter Tryz.func43, Tryz.ntmps43
  go_wp2_with fail
  refine (hC _).mono ?_; rintro e w1 ⟨rfl, hbw1⟩; obtain ⟨hcw1, hfw1⟩ := bcell hbw1; have hzw1 := hbw1.size; (try simp at hzw1); have hk0w1 : w.heap.size < w1.heap.size := (by omega); have hk1w1 : w.heap.size + 1 < w1.heap.size := (by omega); have hk2w1 : w.heap.size + 1 + 1 < w1.heap.size := (by omega)
  go_wp2_with fail
  refine (hT _).mono ?_; rintro e w2 ⟨rfl, hbw2⟩; obtain ⟨hcw2, hfw2⟩ := bcell hbw2; have hzw2 := hbw2.size; (try simp at hzw2); have hk0w2 : w.heap.size < w2.heap.size := (by omega); have hk1w2 : w.heap.size + 1 < w2.heap.size := (by omega); have hk2w2 : w.heap.size + 1 + 1 < w2.heap.size := (by omega)
  go_wp2
  exact bodyPost_ret (v := ov z.k z.n z.s z.e) (by simp [results, Tryz.results43, go_sem, *]) rfl ⟨rfl, by repeat (first | exact Below.refl _ _ | assumption | exact Go.Proofs.YtdbhencjomnjhaaGreatDoor.V.below_drewN _ _ | (refine bel_trans ?_ (Go.Proofs.YtdbhencjomnjhaaGreatDoor.V.below_drewN _ _)) | (refine bel_trans ?_ (by assumption)) | (with_reducible apply bel_alloc) | (with_reducible apply Below.drew) | apply bel_alloc | apply Below.drew | refine bel_set ?_ (by simp; try omega) _)⟩
set_option maxRecDepth 100000 in
set_option maxHeartbeats 4000000 in
theorem ns_19 (s p : ByteArray) (hs : s.size ≤ 100) (hp : p.size ≤ 100) (w : World) : Ret 43 #[.int .u8 19, val 2 0 s, val 2 0 p] w (enc (bo (matchB s p))) := by
  have hC : ∀ w, Ret 57 #[val 2 0 s, val 2 0 p] w (.int .i64 (cmpT s p)) := fun w => c_Compare_2 0 s 0 p (by unfold maxLen; omega) (by unfold maxLen; omega) w
  generalize cmpT s p = q at hC
  have hM := fun w => c_Matches s p (by unfold maxLen; omega) (by unfold maxLen; omega) w
  generalize matchB s p = b at hM ⊢
  have hT := fun w => c_truth b w
  have hz : (bo b).k = 3 ∧ (bo b).n = (if b then 1 else 0) ∧ (bo b).s = ⟨#[]⟩ ∧ (bo b).e = 0 := ⟨rfl, rfl, rfl, rfl⟩
  generalize (if b = true then 1 else 0 : Int) = m at hT hz
  obtain ⟨h1, h2, h3, h4⟩ := hz
  show Ret 43 _ _ (ov (bo b).k (bo b).n (bo b).s (bo b).e)
  rw [h1, h2, h3, h4]
  clear h1 h2 h3 h4 hs hp
  go_enter Tryz.func43, Tryz.ntmps43
  go_wp2_with fail
  refine (hC _).mono ?_; rintro e w1 ⟨rfl, hbw1⟩; obtain ⟨hcw1, hfw1⟩ := bcell hbw1; have hzw1 := hbw1.size; (try simp at hzw1); have hk0w1 : w.heap.size < w1.heap.size := (by omega); have hk1w1 : w.heap.size + 1 < w1.heap.size := (by omega); have hk2w1 : w.heap.size + 1 + 1 < w1.heap.size := (by omega)
  go_wp2_with fail
  refine (hM _).mono ?_; rintro e w2 ⟨rfl, hbw2⟩; obtain ⟨hcw2, hfw2⟩ := bcell hbw2; have hzw2 := hbw2.size; (try simp at hzw2); have hk0w2 : w.heap.size < w2.heap.size := (by omega); have hk1w2 : w.heap.size + 1 < w2.heap.size := (by omega); have hk2w2 : w.heap.size + 1 + 1 < w2.heap.size := (by omega)
  go_wp2_with fail
  refine (hT _).mono ?_; rintro e w3 ⟨rfl, hbw3⟩; obtain ⟨hcw3, hfw3⟩ := bcell hbw3; have hzw3 := hbw3.size; (try simp at hzw3); have hk0w3 : w.heap.size < w3.heap.size := (by omega); have hk1w3 : w.heap.size + 1 < w3.heap.size := (by omega); have hk2w3 : w.heap.size + 1 + 1 < w3.heap.size := (by omega)
  go_wp2
  exact bodyPost_ret (v := ov 3 m ⟨#[]⟩ 0) (by simp [results, Tryz.results43, go_sem, *]) rfl ⟨rfl, by repeat (first | exact Below.refl _ _ | assumption | exact Go.Proofs.YtdbhencjomnjhaaGreatDoor.V.below_drewN _ _ | (refine bel_trans ?_ (Go.Proofs.YtdbhencjomnjhaaGreatDoor.V.below_drewN _ _)) | (refine bel_trans ?_ (by assumption)) | (with_reducible apply bel_alloc) | (with_reducible apply Below.drew) | apply bel_alloc | apply Below.drew | refine bel_set ?_ (by simp; try omega) _)⟩
set_option maxRecDepth 100000 in
set_option maxHeartbeats 4000000 in
theorem ns_11 (s : ByteArray) (hs : s.size ≤ 100) (w : World) : Ret 43 #[.int .u8 11, val 2 0 s, val 2 0 s] w (ov 1 (s.size : Int) ⟨#[]⟩ 0) := by
  have hC : ∀ w, Ret 57 #[val 2 0 s, val 2 0 s] w (.int .i64 (cmpT s s)) := fun w => c_Compare_2 0 s 0 s (by unfold maxLen; omega) (by unfold maxLen; omega) w
  generalize cmpT s s = q at hC
  have hT := fun w => c_Int (s.size : Int) w
  go_enter Tryz.func43, Tryz.ntmps43
  go_wp2_with fail
  refine (hC _).mono ?_; rintro e w1 ⟨rfl, hbw1⟩; obtain ⟨hcw1, hfw1⟩ := bcell hbw1; have hzw1 := hbw1.size; (try simp at hzw1); have hk0w1 : w.heap.size < w1.heap.size := (by omega); have hk1w1 : w.heap.size + 1 < w1.heap.size := (by omega); have hk2w1 : w.heap.size + 1 + 1 < w1.heap.size := (by omega)
  go_wp2_with fail
  refine (hT _).mono ?_; rintro e w2 ⟨rfl, hbw2⟩; obtain ⟨hcw2, hfw2⟩ := bcell hbw2; have hzw2 := hbw2.size; (try simp at hzw2); have hk0w2 : w.heap.size < w2.heap.size := (by omega); have hk1w2 : w.heap.size + 1 < w2.heap.size := (by omega); have hk2w2 : w.heap.size + 1 + 1 < w2.heap.size := (by omega)
  go_wp2
  exact bodyPost_ret (v := ov 1 (s.size : Int) ⟨#[]⟩ 0) (by simp [results, Tryz.results43, go_sem, *]) rfl ⟨rfl, by repeat (first | exact Below.refl _ _ | assumption | exact Go.Proofs.YtdbhencjomnjhaaGreatDoor.V.below_drewN _ _ | (refine bel_trans ?_ (Go.Proofs.YtdbhencjomnjhaaGreatDoor.V.below_drewN _ _)) | (refine bel_trans ?_ (by assumption)) | (with_reducible apply bel_alloc) | (with_reducible apply Below.drew) | apply bel_alloc | apply Below.drew | refine bel_set ?_ (by simp; try omega) _)⟩
set_option maxRecDepth 100000 in
set_option maxHeartbeats 4000000 in
theorem ns_10 (s p : ByteArray) (hs : s.size ≤ 100) (hp : p.size ≤ 100) (w : World) : Ret 43 #[.int .u8 10, val 2 0 s, val 2 0 p] w (enc (textO (s ++ p))) := by
  have hC : ∀ w, Ret 57 #[val 2 0 s, val 2 0 p] w (.int .i64 (cmpT s p)) := fun w => c_Compare_2 0 s 0 p (by unfold maxLen; omega) (by unfold maxLen; omega) w
  generalize cmpT s p = q at hC
  have hT := fun w => c_Text (s ++ p) w
  unfold textO
  by_cases hl : 100 < (s ++ p).size
  · rw [if_pos hl]
    rw [show textOf (s ++ p) = .tuple #[val 0 0 ⟨#[]⟩, .int .i64 5] from if_pos hl] at hT
    clear hl
    go_enter Tryz.func43, Tryz.ntmps43
    go_wp2_with fail
    refine (hC _).mono ?_; rintro e w1 ⟨rfl, hbw1⟩; obtain ⟨hcw1, hfw1⟩ := bcell hbw1; have hzw1 := hbw1.size; (try simp at hzw1); have hk0w1 : w.heap.size < w1.heap.size := (by omega); have hk1w1 : w.heap.size + 1 < w1.heap.size := (by omega); have hk2w1 : w.heap.size + 1 + 1 < w1.heap.size := (by omega)
    go_wp2_with fail
    refine (hT _).mono ?_; rintro e w2 ⟨rfl, hbw2⟩; obtain ⟨hcw2, hfw2⟩ := bcell hbw2; have hzw2 := hbw2.size; (try simp at hzw2); have hk0w2 : w.heap.size < w2.heap.size := (by omega); have hk1w2 : w.heap.size + 1 < w2.heap.size := (by omega); have hk2w2 : w.heap.size + 1 + 1 < w2.heap.size := (by omega)
    go_wp2
    exact bodyPost_ret (v := ov 0 0 ⟨#[]⟩ 5) (by simp [results, Tryz.results43, go_sem, *]) rfl ⟨rfl, by repeat (first | exact Below.refl _ _ | assumption | exact Go.Proofs.YtdbhencjomnjhaaGreatDoor.V.below_drewN _ _ | (refine bel_trans ?_ (Go.Proofs.YtdbhencjomnjhaaGreatDoor.V.below_drewN _ _)) | (refine bel_trans ?_ (by assumption)) | (with_reducible apply bel_alloc) | (with_reducible apply Below.drew) | apply bel_alloc | apply Below.drew | refine bel_set ?_ (by simp; try omega) _)⟩
  · rw [if_neg hl]
    rw [show textOf (s ++ p) = .tuple #[val 2 0 (s ++ p), .int .i64 0] from if_neg hl] at hT
    clear hl
    go_enter Tryz.func43, Tryz.ntmps43
    go_wp2_with fail
    refine (hC _).mono ?_; rintro e w1 ⟨rfl, hbw1⟩; obtain ⟨hcw1, hfw1⟩ := bcell hbw1; have hzw1 := hbw1.size; (try simp at hzw1); have hk0w1 : w.heap.size < w1.heap.size := (by omega); have hk1w1 : w.heap.size + 1 < w1.heap.size := (by omega); have hk2w1 : w.heap.size + 1 + 1 < w1.heap.size := (by omega)
    go_wp2_with fail
    refine (hT _).mono ?_; rintro e w2 ⟨rfl, hbw2⟩; obtain ⟨hcw2, hfw2⟩ := bcell hbw2; have hzw2 := hbw2.size; (try simp at hzw2); have hk0w2 : w.heap.size < w2.heap.size := (by omega); have hk1w2 : w.heap.size + 1 < w2.heap.size := (by omega); have hk2w2 : w.heap.size + 1 + 1 < w2.heap.size := (by omega)
    go_wp2
    exact bodyPost_ret (v := ov 2 0 (s ++ p) 0) (by simp [results, Tryz.results43, go_sem, *]) rfl ⟨rfl, by repeat (first | exact Below.refl _ _ | assumption | exact Go.Proofs.YtdbhencjomnjhaaGreatDoor.V.below_drewN _ _ | (refine bel_trans ?_ (Go.Proofs.YtdbhencjomnjhaaGreatDoor.V.below_drewN _ _)) | (refine bel_trans ?_ (by assumption)) | (with_reducible apply bel_alloc) | (with_reducible apply Below.drew) | apply bel_alloc | apply Below.drew | refine bel_set ?_ (by simp; try omega) _)⟩
end Go.Proofs.YtdbhencjomnjhaaGreatDoor.U
namespace Go.Proofs.YtdbhencjomnjhaaGreatDoor.T
open Go.ChangeShapes Go.WideShapes Go.ChangeAt Go.RowKit Go.Proofs.YtdbhencjomnjhaaGreatDoor.V Go.Proofs.YtdbhencjomnjhaaGreatDoor.K
set_option maxRecDepth 100000 in
set_option maxHeartbeats 4000000 in
theorem c_strict18 (u v : Vl) (a : Option Addr) (c : Nat) (w : World) (h : Outs w a 2 [ofV u, ofV v]) : Ret 18 #[.int .u8 18, .slice a 2 c] w (enc (bo (same u.1 u.2.1 u.2.2 v.1 v.2.1 v.2.2))) := by
  obtain ⟨u1, u2, u3⟩ := u
  obtain ⟨v1, v2, v3⟩ := v
  have HL := Lib.hid h
  have hE : errs 0 [ofV (u1, u2, u3), ofV (v1, v2, v3)] = 0 := by simp [errs, ofV, lst]
  have hLe : ∀ W, Outs W a 2 [ofV (u1, u2, u3), ofV (v1, v2, v3)] → Ret 40 #[.slice a 2 c] W (.int .i64 0) := fun W h => by have := c_least a 2 c _ (by omega) W h; rwa [hE] at this
  clear h hE
  go_enter Tryz.func18, Tryz.ntmps18
  go_upto_region 4 with (go_at_call 40; refine (hLe _ (HL.out.below (bel_alloc (Below.refl _ _) _))).mono ?_; rintro e w1 ⟨rfl, hb1⟩)
  have B1 : Hid (Below w.heap.size w w1) := bel_trans (bel_alloc (Below.refl _ _) _) hb1
  have X1 : Hid (Box w1 w.heap.size nul) := (Box.new w nul).below hb1
  clear hb1
  go_cut [6, 7] from 8 (fun s6 s7 wc => ∃ b6 b7, s6 = .pointer (some ⟨b6, 0, none⟩) ∧ s7 = .pointer (some ⟨b7, 0, none⟩) ∧
    Hid (b6 < wc.heap.size ∧ wc.cell? ⟨b6, 0, none⟩ = some (.int .u8 u1) ∧ wc.cell? ⟨b6, 1, none⟩ = some (.int .i64 u2) ∧ wc.cell? ⟨b6, 2, none⟩ = some (.string u3)) ∧
    Hid (b7 < wc.heap.size ∧ wc.cell? ⟨b7, 0, none⟩ = some (.int .u8 v1) ∧ wc.cell? ⟨b7, 1, none⟩ = some (.int .i64 v2) ∧ wc.cell? ⟨b7, 2, none⟩ = some (.string v3)) ∧ Hid (Below w1.heap.size w1 wc))
  case first =>
    obtain ⟨g, p, o, rfl, e1, hg, c0, c1, c2, c3⟩ := (HL.out.below B1.out).at_ 0 (by omega)
    obtain ⟨g', p', o', e2, e3, -, d0, d1, d2, d3⟩ := (HL.out.below B1.out).at_ 1 (by omega)
    injection e2 with e2
    injection e2 with e4 e5
    subst e4; subst e5
    obtain rfl : ofV (u1, u2, u3) = o := Option.some.inj e1
    obtain rfl : ofV (v1, v2, v3) = o' := Option.some.inj e3
    simp only [ofV, Nat.zero_mul, Nat.one_mul, Nat.add_zero] at c0 c1 c2 d0 d1 d2
    clear e1 e3 c3 d3
    have hw : IntKind.i64.wrap (2 - 1) = 2 - 1 := by decide
    have hw1 : IntKind.i64.wrap 1 = 1 := by decide
    go_region_held3 (fun w' => w'.cell? ⟨g, p, none⟩ = some (.int .u8 u1) ∧ w'.cell? ⟨g, p + 1, none⟩ = some (.int .i64 u2) ∧ w'.cell? ⟨g, p + 2, none⟩ = some (.string u3) ∧ w'.cell? ⟨g, p + 4, none⟩ = some (.int .u8 v1) ∧ w'.cell? ⟨g, p + 4 + 1, none⟩ = some (.int .i64 v2) ∧ w'.cell? ⟨g, p + 4 + 2, none⟩ = some (.string v3)) (simp [*, go_sem, World.cell?_alloc_past]) (fail)
    all_goals
      go_wp2
      go_meet
      refine ⟨_, _, rfl, rfl, ?_, ?_, ?_⟩
      · exact ⟨by simp <;> omega, by simp [*, go_sem, World.cell?_alloc_past], by simp [*, go_sem, World.cell?_alloc_past], by simp [*, go_sem, World.cell?_alloc_past]⟩
      · exact ⟨by simp <;> omega, by simp [*, go_sem, World.cell?_alloc_past], by simp [*, go_sem, World.cell?_alloc_past], by simp [*, go_sem, World.cell?_alloc_past]⟩
      · show Below _ _ _
        repeat (first | exact Below.refl _ _ | (refine bel_trans ?_ (by assumption)) | (with_reducible apply bel_alloc) | (with_reducible apply Below.drew) | apply bel_alloc | apply Below.drew | refine bel_set ?_ (by simp; try omega) _)
  case rest =>
    obtain ⟨b6, b7, rfl, rfl, U, V, B⟩ := hcut
    have B2 : Hid (Below w.heap.size w wc) := bel_trans B1.out B.out
    have X2 : Hid (Box wc w.heap.size nul) := X1.out.below B.out
    obtain ⟨ul, c0, c1, c2⟩ := U.out
    obtain ⟨vl, d0, d1, d2⟩ := V.out
    clear B1 X1 B hLe HL U V
    by_cases hq : u1 = v1 ∧ u2 = v2 ∧ u3 = v3
    · obtain ⟨rfl, rfl, rfl⟩ := hq
      have hR : Hid (same u1 u2 u3 u1 u2 u3 = true) := same_iff.2 ⟨rfl, rfl, rfl⟩
      go_wp2_with (go_at_call 30; refine (c_truth true _).mono ?_; rintro e w4 ⟨rfl, hb4⟩; obtain ⟨hx, z0, z1, z2, z3, e0, e1, e2, e3⟩ := X2.out.below hb4)
      have B4 : Hid (Below w.heap.size w w4) := bel_trans B2.out hb4
      exact bodyPost_ret (v := ov 3 1 ⟨#[]⟩ 0) (by simp [results, Tryz.results18, go_sem, *]) rfl ⟨ret_v (by rw [hR.out]; rfl), put4_below (o := bo true) B4.out (Nat.le_refl _)⟩
    · have hR : Hid (same u1 u2 u3 v1 v2 v3 = false) := by
        show _ = _
        cases hs : same u1 u2 u3 v1 v2 v3 with
        | false => rfl
        | true => exact absurd (same_iff.1 hs) hq
      by_cases h1 : u1 = v1
      · by_cases h2 : u2 = v2
        · have h3 : ¬ u3 = v3 := fun h3 => hq ⟨h1, h2, h3⟩
          have h3' : ¬ u3.toList = v3.toList := fun h => h3 (ba_inj.1 h)
          clear hq
          go_wp2_with (go_at_call 30; refine (c_truth false _).mono ?_; rintro e w4 ⟨rfl, hb4⟩; obtain ⟨hx, z0, z1, z2, z3, e0, e1, e2, e3⟩ := X2.out.below hb4)
          have B4 : Hid (Below w.heap.size w w4) := bel_trans B2.out hb4
          exact bodyPost_ret (v := ov 3 0 ⟨#[]⟩ 0) (by simp [results, Tryz.results18, go_sem, *]) rfl ⟨ret_v (by rw [hR.out]; rfl), put4_below (o := bo false) B4.out (Nat.le_refl _)⟩
        · clear hq
          go_wp2_with (go_at_call 30; refine (c_truth false _).mono ?_; rintro e w4 ⟨rfl, hb4⟩; obtain ⟨hx, z0, z1, z2, z3, e0, e1, e2, e3⟩ := X2.out.below hb4)
          have B4 : Hid (Below w.heap.size w w4) := bel_trans B2.out hb4
          exact bodyPost_ret (v := ov 3 0 ⟨#[]⟩ 0) (by simp [results, Tryz.results18, go_sem, *]) rfl ⟨ret_v (by rw [hR.out]; rfl), put4_below (o := bo false) B4.out (Nat.le_refl _)⟩
      · clear hq
        go_wp2_with (go_at_call 30; refine (c_truth false _).mono ?_; rintro e w4 ⟨rfl, hb4⟩; obtain ⟨hx, z0, z1, z2, z3, e0, e1, e2, e3⟩ := X2.out.below hb4)
        have B4 : Hid (Below w.heap.size w w4) := bel_trans B2.out hb4
        exact bodyPost_ret (v := ov 3 0 ⟨#[]⟩ 0) (by simp [results, Tryz.results18, go_sem, *]) rfl ⟨ret_v (by rw [hR.out]; rfl), put4_below (o := bo false) B4.out (Nat.le_refl _)⟩
set_option maxRecDepth 100000 in
set_option maxHeartbeats 4000000 in
theorem c_Node_same (u v : Vl) (hu : vOk u = true) (hv : vOk v = true) (ha : agree u.1 v.1 = true) (a : Option Addr) (c : Nat) (w : World) (h : Outs w a 2 [ofV u, ofV v]) :
    Ret 5 #[.int .u8 18, .slice a 2 c] w (enc (node 18 [ofV u, ofV v])) := by
  have HL := Lib.hid h
  have hK : Hid (kind 18 ([ofV u, ofV v].map (·.k)) = (3, 0)) := by
    have hs : sortOf 18 = (4, 2) := by decide +kernel
    have ku := vd_kind (show vd u.1 u.2.1 u.2.2 = true from hu)
    have kv := vd_kind (show vd v.1 v.2.1 v.2.2 = true from hv)
    have e1 : decide (u.1 ≤ 3) = true := by simp; omega
    have e2 : decide (v.1 ≤ 3) = true := by simp; omega
    show _ = _
    unfold kind takes
    simp only [hs, List.map_cons, List.map_nil, List.length_cons, List.length_nil, kindOf, List.getD_cons_zero, List.getD_cons_succ, ofV, ha, e1, e2, List.all_cons, List.all_nil]
    rfl
  have hV : Hid ([ofV u, ofV v].all Ot.ok = true) := by show _ = _; simp [ofV_ok hu, ofV_ok hv]
  have hS : Hid (∀ W, Outs W a 2 [ofV u, ofV v] → Ret 18 #[.int .u8 18, .slice a 2 c] W (enc (node 18 [ofV u, ofV v]))) := fun W h => by rw [node_same ⟨rfl, rfl, ofV_ok hu, ofV_ok hv, ha⟩]; exact c_strict18 u v a c W h
  clear h ha hu hv
  go_enter Tryz.func5, Tryz.ntmps5
  go_wp2_with fail
  have HL0 := Lib.hid (HL.out.below (bel_alloc (Below.refl _ w) (.cells #[.int .u8 0, .int .i64 0, .string ⟨#[]⟩, .int .i64 0] 31)))
  refine (c_kindsOf a 2 c [ofV u, ofV v] (by omega) _ HL0.out).mono ?_
  rintro e w1 ⟨⟨a2, rfl, hone⟩, hb1⟩
  have HX1 : Hid (Box w1 w.heap.size nul) := (Box.new w nul).below hb1
  have B1 : Hid (Below w.heap.size w w1) := bel_trans (bel_alloc (Below.refl _ _) _) hb1
  have HO := Lib.hid hone
  clear hb1 hone HL0
  go_wp2_with fail
  refine (c_Kind 18 a2 2 2 ([ofV u, ofV v].map (·.k)) (Nat.le_refl _) (by omega) (by omega) _ HO.out).mono ?_
  rw [hK.out]
  rintro e w2 ⟨rfl, hb2⟩
  have HX2 := Lib.hid (HX1.out.below hb2)
  have B2 : Hid (Below w.heap.size w w2) := bel_trans B1.out hb2
  clear hb2 HX1 B1 HO
  simp only [kV]
  go_wp2_with fail
  refine (c_areValid a 2 c [ofV u, ofV v] (by omega) _ (HL.out.below B2.out)).mono ?_
  rw [hV.out]
  rintro e w3 ⟨rfl, hb3⟩
  have HX3 := Lib.hid (HX2.out.below hb3)
  have B3 : Hid (Below w.heap.size w w3) := bel_trans B2.out hb3
  clear hb3 HX2 B2
  go_wp2_with fail
  refine (hS.out _ (HL.out.below B3.out)).mono ?_
  rintro e w4 ⟨rfl, hb4⟩
  obtain ⟨hx, d0, d1, d2, d3, e0, e1, e2, e3⟩ := HX3.out.below hb4
  have B4 : Hid (Below w.heap.size w w4) := bel_trans B3.out hb4
  clear hb4
  generalize hz : node 18 [ofV u, ofV v] = z
  have hz := Lib.hid hz
  go_wp2
  exact bodyPost_ret (v := ov z.k z.n z.s z.e) (by simp [results, Tryz.results5, go_sem, *]) rfl ⟨ret_v (by rw [hz.out]), put4_below B4.out (Nat.le_refl _) _⟩
end Go.Proofs.YtdbhencjomnjhaaGreatDoor.T
namespace Go.Proofs.YtdbhencjomnjhaaGreatDoor.U
open Go.ChangeShapes Go.WideShapes Go.ChangeAt Go.RowKit Go.Proofs.YtdbhencjomnjhaaGreatDoor.V Go.Proofs.YtdbhencjomnjhaaGreatDoor.K Go.Proofs.YtdbhencjomnjhaaGreatDoor.T
set_option maxRecDepth 100000 in
set_option maxHeartbeats 4000000 in
theorem c_strict_err (op : Int) (a : Option Addr) (n c : Nat) (l : List Ot) (hn : n ≤ 9223372036854775000) (he : errs 0 l ≠ 0) (w : World) (h : Outs w a n l) : Ret 18 #[.int .u8 op, .slice a n c] w (enc (fl (errs 0 l))) := by
  have HL := Lib.hid h
  have hLe : ∀ W, Outs W a n l → Ret 40 #[.slice a n c] W (.int .i64 (errs 0 l)) := fun W h => c_least a n c l (by omega) W h
  generalize errs 0 l = q at he hLe ⊢
  have he2 : (q != 0) = true := by simpa using he
  clear h he
  go_enter Tryz.func18, Tryz.ntmps18
  go_upto_region 3 with (go_at_call 40; refine (hLe _ (HL.out.below (bel_alloc (Below.refl _ _) _))).mono ?_; rintro e w1 ⟨rfl, hb1⟩)
  have B1 : Hid (Below w.heap.size w w1) := bel_trans (bel_alloc (Below.refl _ _) _) hb1
  have X1 : Hid (Box w1 w.heap.size nul) := (Box.new w nul).below hb1
  clear hb1 hLe
  go_wp2_with (go_at_call 13; refine (c_failing q _).mono ?_; rintro e w4 ⟨rfl, hb4⟩; obtain ⟨hx, d0, d1, d2, d3, e0, e1, e2, e3⟩ := X1.out.below hb4)
  exact bodyPost_ret (v := ov 0 0 ⟨#[]⟩ q) (by simp [results, Tryz.results18, go_sem, *]) rfl ⟨rfl, put4_below (o := fl q) (bel_trans B1.out hb4) (Nat.le_refl _)⟩
set_option maxRecDepth 100000 in
set_option maxHeartbeats 4000000 in
theorem c_strict20 (u1 u2 : Int) (u3 : ByteArray) (hv : vd u1 u2 u3 = true) (a : Option Addr) (c : Nat) (w : World) (h : Outs w a 1 [ofV (u1, u2, u3)]) : Ret 18 #[.int .u8 20, .slice a 1 c] w (enc (bo (isN (ofV (u1, u2, u3))))) := by
  have HL := Lib.hid h
  have hE : errs 0 [ofV (u1, u2, u3)] = 0 := by simp [errs, ofV, lst]
  have hLe : ∀ W, Outs W a 1 [ofV (u1, u2, u3)] → Ret 40 #[.slice a 1 c] W (.int .i64 0) := fun W h => by have := c_least a 1 c _ (by omega) W h; rwa [hE] at this
  clear h hE
  go_enter Tryz.func18, Tryz.ntmps18
  go_upto_region 4 with (go_at_call 40; refine (hLe _ (HL.out.below (bel_alloc (Below.refl _ _) _))).mono ?_; rintro e w1 ⟨rfl, hb1⟩)
  have B1 : Hid (Below w.heap.size w w1) := bel_trans (bel_alloc (Below.refl _ _) _) hb1
  have X1 : Hid (Box w1 w.heap.size nul) := (Box.new w nul).below hb1
  clear hb1
  go_cut [6, 7] from 8 (fun s6 s7 wc => ∃ b6 b7, s6 = .pointer (some ⟨b6, 0, none⟩) ∧ s7 = .pointer (some ⟨b7, 0, none⟩) ∧
    Hid (b6 < wc.heap.size ∧ wc.cell? ⟨b6, 0, none⟩ = some (.int .u8 u1) ∧ wc.cell? ⟨b6, 1, none⟩ = some (.int .i64 u2) ∧ wc.cell? ⟨b6, 2, none⟩ = some (.string u3)) ∧
    Hid (b7 < wc.heap.size ∧ wc.cell? ⟨b7, 0, none⟩ = some (.int .u8 u1) ∧ wc.cell? ⟨b7, 1, none⟩ = some (.int .i64 u2) ∧ wc.cell? ⟨b7, 2, none⟩ = some (.string u3)) ∧ Hid (Below w1.heap.size w1 wc))
  case first =>
    obtain ⟨g, p, o, rfl, e1, hg, c0, c1, c2, c3⟩ := (HL.out.below B1.out).at_ 0 (by omega)
    obtain rfl : ofV (u1, u2, u3) = o := Option.some.inj e1
    simp only [ofV, Nat.zero_mul, Nat.add_zero] at c0 c1 c2
    clear e1 c3
    have hw : IntKind.i64.wrap (1 - 1) = 1 - 1 := by decide
    have hw1 : IntKind.i64.wrap 0 = 0 := by decide
    go_region_held3 (fun w' => w'.cell? ⟨g, p, none⟩ = some (.int .u8 u1) ∧ w'.cell? ⟨g, p + 1, none⟩ = some (.int .i64 u2) ∧ w'.cell? ⟨g, p + 2, none⟩ = some (.string u3)) (simp [*, go_sem, World.cell?_alloc_past]) (fail)
    all_goals
      go_wp2
      go_meet
      refine ⟨_, _, rfl, rfl, ?_, ?_, ?_⟩
      · exact ⟨by simp <;> omega, by simp [*, go_sem, World.cell?_alloc_past], by simp [*, go_sem, World.cell?_alloc_past], by simp [*, go_sem, World.cell?_alloc_past]⟩
      · exact ⟨by simp <;> omega, by simp [*, go_sem, World.cell?_alloc_past], by simp [*, go_sem, World.cell?_alloc_past], by simp [*, go_sem, World.cell?_alloc_past]⟩
      · show Below _ _ _
        repeat (first | exact Below.refl _ _ | (refine bel_trans ?_ (by assumption)) | (with_reducible apply bel_alloc) | (with_reducible apply Below.drew) | apply bel_alloc | apply Below.drew | refine bel_set ?_ (by simp; try omega) _)
  case rest =>
    obtain ⟨b6, b7, rfl, rfl, U, V, B⟩ := hcut
    have B2 : Hid (Below w.heap.size w wc) := bel_trans B1.out B.out
    have X2 : Hid (Box wc w.heap.size nul) := X1.out.below B.out
    obtain ⟨ul, c0, c1, c2⟩ := U.out
    clear B1 X1 B hLe HL U V
    by_cases hq : u1 = 0
    · have hn := ok_null (o := ofV (u1, u2, u3)) (by unfold Ot.ok; exact hv) (by simp [isN, ofV, hq])
      have e1 : u1 = 0 := hq
      have e2 : u2 = 0 := congrArg Ot.n hn
      have e3 : u3 = ⟨#[]⟩ := congrArg Ot.s hn
      subst e1; subst e2; subst e3
      have hR : Hid (isN (ofV (0, 0, ⟨#[]⟩)) = true) := by show _ = _; rfl
      clear hn hv hq
      go_wp2_with (go_at_call 30; refine (c_truth true _).mono ?_; rintro e w4 ⟨rfl, hb4⟩; obtain ⟨hx, z0, z1, z2, z3, e0, e1, e2, e3⟩ := X2.out.below hb4)
      have B4 : Hid (Below w.heap.size w w4) := bel_trans B2.out hb4
      exact bodyPost_ret (v := ov 3 1 ⟨#[]⟩ 0) (by simp [results, Tryz.results18, go_sem, *]) rfl ⟨ret_v (by rw [hR.out]; rfl), put4_below (o := bo true) B4.out (Nat.le_refl _)⟩
    · have hR : Hid (isN (ofV (u1, u2, u3)) = false) := by show _ = _; simp [isN, ofV, hq]
      clear hv
      go_wp2_with (go_at_call 30; refine (c_truth false _).mono ?_; rintro e w4 ⟨rfl, hb4⟩; obtain ⟨hx, z0, z1, z2, z3, e0, e1, e2, e3⟩ := X2.out.below hb4)
      have B4 : Hid (Below w.heap.size w w4) := bel_trans B2.out hb4
      exact bodyPost_ret (v := ov 3 0 ⟨#[]⟩ 0) (by simp [results, Tryz.results18, go_sem, *]) rfl ⟨ret_v (by rw [hR.out]; rfl), put4_below (o := bo false) B4.out (Nat.le_refl _)⟩
end Go.Proofs.YtdbhencjomnjhaaGreatDoor.U
namespace Go.Proofs.YtdbhencjomnjhaaGreatDoor.U
open Go.ChangeShapes Go.WideShapes Go.ChangeAt Go.RowKit Go.Proofs.YtdbhencjomnjhaaGreatDoor.V Go.Proofs.YtdbhencjomnjhaaGreatDoor.K Go.Proofs.YtdbhencjomnjhaaGreatDoor.T
set_option maxRecDepth 100000 in
set_option maxHeartbeats 4000000 in
theorem c_strict21 (u1 u2 : Int) (u3 : ByteArray) (hv : vd u1 u2 u3 = true) (a : Option Addr) (c : Nat) (w : World) (h : Outs w a 1 [ofV (u1, u2, u3)]) : Ret 18 #[.int .u8 21, .slice a 1 c] w (enc (bo (isT (ofV (u1, u2, u3))))) := by
  have HL := Lib.hid h
  have hE : errs 0 [ofV (u1, u2, u3)] = 0 := by simp [errs, ofV, lst]
  have hLe : ∀ W, Outs W a 1 [ofV (u1, u2, u3)] → Ret 40 #[.slice a 1 c] W (.int .i64 0) := fun W h => by have := c_least a 1 c _ (by omega) W h; rwa [hE] at this
  clear h hE
  go_enter Tryz.func18, Tryz.ntmps18
  go_upto_region 4 with (go_at_call 40; refine (hLe _ (HL.out.below (bel_alloc (Below.refl _ _) _))).mono ?_; rintro e w1 ⟨rfl, hb1⟩)
  have B1 : Hid (Below w.heap.size w w1) := bel_trans (bel_alloc (Below.refl _ _) _) hb1
  have X1 : Hid (Box w1 w.heap.size nul) := (Box.new w nul).below hb1
  clear hb1
  go_cut [6, 7] from 8 (fun s6 s7 wc => ∃ b6 b7, Hid (w.heap.size < b6) ∧ s6 = .pointer (some ⟨b6, 0, none⟩) ∧ s7 = .pointer (some ⟨b7, 0, none⟩) ∧
    Hid (b6 < wc.heap.size ∧ wc.cell? ⟨b6, 0, none⟩ = some (.int .u8 u1) ∧ wc.cell? ⟨b6, 1, none⟩ = some (.int .i64 u2) ∧ wc.cell? ⟨b6, 2, none⟩ = some (.string u3)) ∧
    Hid (b7 < wc.heap.size ∧ wc.cell? ⟨b7, 0, none⟩ = some (.int .u8 u1) ∧ wc.cell? ⟨b7, 1, none⟩ = some (.int .i64 u2) ∧ wc.cell? ⟨b7, 2, none⟩ = some (.string u3)) ∧ Hid (Below w1.heap.size w1 wc))
  case first =>
    obtain ⟨g, p, o, rfl, e1, hg, c0, c1, c2, c3⟩ := (HL.out.below B1.out).at_ 0 (by omega)
    obtain rfl : ofV (u1, u2, u3) = o := Option.some.inj e1
    simp only [ofV, Nat.zero_mul, Nat.add_zero] at c0 c1 c2
    clear e1 c3
    have hw : IntKind.i64.wrap (1 - 1) = 1 - 1 := by decide
    have hw1 : IntKind.i64.wrap 0 = 0 := by decide
    go_region_held3 (fun w' => w'.cell? ⟨g, p, none⟩ = some (.int .u8 u1) ∧ w'.cell? ⟨g, p + 1, none⟩ = some (.int .i64 u2) ∧ w'.cell? ⟨g, p + 2, none⟩ = some (.string u3)) (simp [*, go_sem, World.cell?_alloc_past]) (fail)
    all_goals
      go_wp2
      go_meet
      refine ⟨_, _, ?_, rfl, rfl, ?_, ?_, ?_⟩
      · show _ < _; have := X1.out.lt; simp <;> omega
      · exact ⟨by simp <;> omega, by simp [*, go_sem, World.cell?_alloc_past], by simp [*, go_sem, World.cell?_alloc_past], by simp [*, go_sem, World.cell?_alloc_past]⟩
      · exact ⟨by simp <;> omega, by simp [*, go_sem, World.cell?_alloc_past], by simp [*, go_sem, World.cell?_alloc_past], by simp [*, go_sem, World.cell?_alloc_past]⟩
      · show Below _ _ _
        repeat (first | exact Below.refl _ _ | (refine bel_trans ?_ (by assumption)) | (with_reducible apply bel_alloc) | (with_reducible apply Below.drew) | apply bel_alloc | apply Below.drew | refine bel_set ?_ (by simp; try omega) _)
  case rest =>
    obtain ⟨b6, b7, HLT, rfl, rfl, U, V, B⟩ := hcut
    have B2 : Hid (Below w.heap.size w wc) := bel_trans B1.out B.out
    have X2 : Hid (Box wc w.heap.size nul) := X1.out.below B.out
    obtain ⟨ul, c0, c1, c2⟩ := U.out
    clear B1 X1 B hLe HL U V
    have KP : Hid (∀ W', Below wc.heap.size wc W' → W'.cell? ⟨b6, 0, none⟩ = some (.int .u8 u1) ∧ W'.cell? ⟨b6, 1, none⟩ = some (.int .i64 u2) ∧ W'.cell? ⟨b6, 2, none⟩ = some (.string u3)) := fun W' hb => ⟨(hb.cell (p := ⟨b6, 0, none⟩) ul).trans c0, (hb.cell (p := ⟨b6, 1, none⟩) ul).trans c1, (hb.cell (p := ⟨b6, 2, none⟩) ul).trans c2⟩
    have n1 : ¬ b6 = w.heap.size := by have := HLT.out; omega
    have n2 : ¬ w.heap.size = b6 := by omega
    clear c0 c1 c2 ul HLT
    by_cases hq : u1 = 3 ∧ u2 = 1
    · obtain ⟨rfl, rfl⟩ := hq
      have e3 : u3 = ⟨#[]⟩ := by
        unfold vd at hv
        simp at hv
        exact ba_nil hv
      subst e3
      have hR : Hid (isT (ofV (3, 1, ⟨#[]⟩)) = true) := by show _ = _; rfl
      clear hv
      go_upto_region 11 with fail
      go_region_held3 (fun W' => W'.cell? ⟨b6, 0, none⟩ = some (.int .u8 3) ∧ W'.cell? ⟨b6, 1, none⟩ = some (.int .i64 1) ∧ W'.cell? ⟨b6, 2, none⟩ = some (.string ⟨#[]⟩)) (first | (simp [*, go_sem]; done) | exact KP.out _ (by repeat (first | exact Below.refl _ _ | assumption | exact Go.Proofs.YtdbhencjomnjhaaGreatDoor.V.below_drewN _ _ | (refine bel_trans ?_ (Go.Proofs.YtdbhencjomnjhaaGreatDoor.V.below_drewN _ _)) | (refine bel_trans ?_ (by assumption)) | (with_reducible apply bel_alloc) | (with_reducible apply Below.drew) | apply bel_alloc | apply Below.drew | refine bel_set ?_ (by simp; try omega) _)))
        (first | (go_at_call 41; refine (c_Bool_t _).mono ?_; rintro e w3 ⟨rfl, hb3⟩) | (go_at_call 30; refine (c_truth true _).mono ?_; rintro e w4 ⟨rfl, hb4⟩; have B5 : Below wc.heap.size wc w4 := (by repeat (first | exact Below.refl _ _ | assumption | exact Go.Proofs.YtdbhencjomnjhaaGreatDoor.V.below_drewN _ _ | (refine bel_trans ?_ (Go.Proofs.YtdbhencjomnjhaaGreatDoor.V.below_drewN _ _)) | (refine bel_trans ?_ (by assumption)) | (with_reducible apply bel_alloc) | (with_reducible apply Below.drew) | apply bel_alloc | apply Below.drew | refine bel_set ?_ (by simp; try omega) _)); obtain ⟨t0, t1, t2⟩ := KP.out w4 B5; obtain ⟨hx, z0, z1, z2, z3, e0, e1, e2, e3⟩ := X2.out.below B5))
      have B4 : Hid (Below w.heap.size w w4) := bel_trans B2.out B5
      go_wp2
      exact bodyPost_ret (v := ov 3 1 ⟨#[]⟩ 0) (by simp [results, Tryz.results18, go_sem, *]) rfl ⟨ret_v (by rw [hR.out]; rfl), put4_below (o := bo true) B4.out (Nat.le_refl _)⟩
    · have hR : Hid (isT (ofV (u1, u2, u3)) = false) := by
        show _ = _
        simp only [isT, ofV]
        by_cases h1 : u1 = 3
        · have h2 : ¬ u2 = 1 := fun h2 => hq ⟨h1, h2⟩
          simp [h1, h2]
        · simp [h1]
      clear hv
      by_cases h1 : u1 = 3
      · have h2 : ¬ u2 = 1 := fun h2 => hq ⟨h1, h2⟩
        clear hq
        go_upto_region 11 with fail
        go_region_held3 (fun W' => W'.cell? ⟨b6, 0, none⟩ = some (.int .u8 u1) ∧ W'.cell? ⟨b6, 1, none⟩ = some (.int .i64 u2) ∧ W'.cell? ⟨b6, 2, none⟩ = some (.string u3)) (first | (simp [*, go_sem]; done) | exact KP.out _ (by repeat (first | exact Below.refl _ _ | assumption | exact Go.Proofs.YtdbhencjomnjhaaGreatDoor.V.below_drewN _ _ | (refine bel_trans ?_ (Go.Proofs.YtdbhencjomnjhaaGreatDoor.V.below_drewN _ _)) | (refine bel_trans ?_ (by assumption)) | (with_reducible apply bel_alloc) | (with_reducible apply Below.drew) | apply bel_alloc | apply Below.drew | refine bel_set ?_ (by simp; try omega) _)))
          (first | (go_at_call 41; refine (c_Bool_t _).mono ?_; rintro e w3 ⟨rfl, hb3⟩) | (go_at_call 30; refine (c_truth false _).mono ?_; rintro e w4 ⟨rfl, hb4⟩; have B5 : Below wc.heap.size wc w4 := (by repeat (first | exact Below.refl _ _ | assumption | exact Go.Proofs.YtdbhencjomnjhaaGreatDoor.V.below_drewN _ _ | (refine bel_trans ?_ (Go.Proofs.YtdbhencjomnjhaaGreatDoor.V.below_drewN _ _)) | (refine bel_trans ?_ (by assumption)) | (with_reducible apply bel_alloc) | (with_reducible apply Below.drew) | apply bel_alloc | apply Below.drew | refine bel_set ?_ (by simp; try omega) _)); obtain ⟨t0, t1, t2⟩ := KP.out w4 B5; obtain ⟨hx, z0, z1, z2, z3, e0, e1, e2, e3⟩ := X2.out.below B5))
        have B4 : Hid (Below w.heap.size w w4) := bel_trans B2.out B5
        go_wp2
        exact bodyPost_ret (v := ov 3 0 ⟨#[]⟩ 0) (by simp [results, Tryz.results18, go_sem, *]) rfl ⟨ret_v (by rw [hR.out]; rfl), put4_below (o := bo false) B4.out (Nat.le_refl _)⟩
      · clear hq
        go_upto_region 11 with fail
        go_region_held3 (fun W' => W'.cell? ⟨b6, 0, none⟩ = some (.int .u8 u1) ∧ W'.cell? ⟨b6, 1, none⟩ = some (.int .i64 u2) ∧ W'.cell? ⟨b6, 2, none⟩ = some (.string u3)) (first | (simp [*, go_sem]; done) | exact KP.out _ (by repeat (first | exact Below.refl _ _ | assumption | exact Go.Proofs.YtdbhencjomnjhaaGreatDoor.V.below_drewN _ _ | (refine bel_trans ?_ (Go.Proofs.YtdbhencjomnjhaaGreatDoor.V.below_drewN _ _)) | (refine bel_trans ?_ (by assumption)) | (with_reducible apply bel_alloc) | (with_reducible apply Below.drew) | apply bel_alloc | apply Below.drew | refine bel_set ?_ (by simp; try omega) _)))
          (first | (go_at_call 41; refine (c_Bool_t _).mono ?_; rintro e w3 ⟨rfl, hb3⟩) | (go_at_call 30; refine (c_truth false _).mono ?_; rintro e w4 ⟨rfl, hb4⟩; have B5 : Below wc.heap.size wc w4 := (by repeat (first | exact Below.refl _ _ | assumption | exact Go.Proofs.YtdbhencjomnjhaaGreatDoor.V.below_drewN _ _ | (refine bel_trans ?_ (Go.Proofs.YtdbhencjomnjhaaGreatDoor.V.below_drewN _ _)) | (refine bel_trans ?_ (by assumption)) | (with_reducible apply bel_alloc) | (with_reducible apply Below.drew) | apply bel_alloc | apply Below.drew | refine bel_set ?_ (by simp; try omega) _)); obtain ⟨t0, t1, t2⟩ := KP.out w4 B5; obtain ⟨hx, z0, z1, z2, z3, e0, e1, e2, e3⟩ := X2.out.below B5))
        have B4 : Hid (Below w.heap.size w w4) := bel_trans B2.out B5
        go_wp2
        exact bodyPost_ret (v := ov 3 0 ⟨#[]⟩ 0) (by simp [results, Tryz.results18, go_sem, *]) rfl ⟨ret_v (by rw [hR.out]; rfl), put4_below (o := bo false) B4.out (Nat.le_refl _)⟩
end Go.Proofs.YtdbhencjomnjhaaGreatDoor.U
