/- The document's examples that each law asks besides: they hold. -/
import Derived.Test.YtjiilfbomcibjaaGreatDoorStr
import Derived.Test.YtjiilfbomcibjaaGreatDoorMul
namespace Go.Proofs.YtjiilfbomcibjaaGreatDoor.V
open Go.ChangeShapes Go.WideShapes Go.ChangeAt Go.RowKit Go.Proofs.YtjiilfbomcibjaaGreatDoor.L
theorem a_div (w : World) : Calls Tryz.prog 26 #[.int .i64 (-7), .int .i64 2] w fun e w' => e = .returned (pair (-3) 0) ∧ w = w' :=
  (c_Div (-7) 2 (by unfold Fits; omega) (by unfold Fits; omega) w).mono fun _ _ ⟨he, hw⟩ => ⟨he.trans rfl, hw⟩
theorem a_mod (w : World) : Calls Tryz.prog 28 #[.int .i64 (-7), .int .i64 2] w fun e w' => e = .returned (pair (-1) 0) ∧ w = w' :=
  (c_Mod (-7) 2 (by unfold Fits; omega) w).mono fun _ _ ⟨he, hw⟩ => ⟨he.trans rfl, hw⟩
theorem a_print (w : World) (E : Env w) : Calls Tryz.prog 33 #[val 1 (-3) ⟨#[]⟩] w fun e w' => e = .returned (.tuple #[.string ⟨#[45, 51]⟩, .int .i64 0]) ∧ Below w.heap.size w w' :=
  (p_int (-3) (by unfold Fits; omega) w E).mono fun _ _ ⟨he, hw⟩ => ⟨he.trans (by rw [show (Lib.itoa (-3)).toArray = #[45, 51] by decide +kernel]), hw⟩
theorem a_comp (w : World) : Calls Tryz.prog 13 #[val 1 7 ⟨#[]⟩, val 2 0 ⟨#[105, 116, 39, 115]⟩] w fun e w' => e = .returned (.int .i64 (-1)) ∧ Below w.heap.size w w' :=
  (c_Compare 1 7 ⟨#[]⟩ 2 0 ⟨#[105, 116, 39, 115]⟩ (by omega) (by omega) (by decide) (by decide) w).mono fun _ _ ⟨he, hw⟩ => ⟨he.trans (by rw [show cmpV 1 7 ⟨#[]⟩ 2 0 ⟨#[105, 116, 39, 115]⟩ = -1 by simp [cmpV, cmpI]]), hw⟩
theorem a_match (w : World) : Calls Tryz.prog 31 #[.string ⟨#[97, 98, 99]⟩, .string ⟨#[95, 98, 37]⟩] w fun e w' => e = .returned (.bool true) ∧ Below w.heap.size w w' :=
  (c_Matches _ _ (by decide) (by decide) w).mono fun _ _ ⟨he, hw⟩ => ⟨he.trans (by rw [show matchB ⟨#[97, 98, 99]⟩ ⟨#[95, 98, 37]⟩ = true by (unfold matchB; decide +kernel)]), hw⟩
set_option maxHeartbeats 800000 in
theorem awake (w : World) (E : Env w) : Calls Tryz.prog 14 #[] w fun e w' => e = .returned (.bool true) ∧ Below w.heap.size w w' := by
  go_enter Tryz.func14, Tryz.ntmps14
  go_wp2_with (first | (go_at_call 26; refine (a_div _).mono ?_; rintro e w' ⟨rfl, rfl⟩) | (go_at_call 28; refine (a_mod _).mono ?_; rintro e w' ⟨rfl, rfl⟩))
  refine (c_Int _ _).mono ?_
  rintro e w1 ⟨rfl, hb1⟩; have E1 := E.below hb1
  go_wp2_with fail
  refine (a_print _ E1).mono ?_
  rintro e w2 ⟨rfl, hb2⟩; have E2 := E1.below hb2
  go_wp2_with fail
  refine (k_read _ E2).mono ?_
  rintro e w3 ⟨rfl, hb3⟩; have E3 := E2.below hb3
  go_wp2_with fail
  refine region_far (by kernel_rfl) (by kernel_rfl) ?_
  repeat (go_big_quiet_step ((first | (go_at_call 42; with_reducible exact call_far (c_Int _ _)) | (go_at_call 13; with_reducible exact call_far (a_comp _)) | (go_at_call 31; with_reducible exact call_far (a_match _)))))
  refine wpQuiet_nil ?_
  intro wq hbq
  go_wp2
  go_ret
  exact ⟨rfl, by repeat (first | exact Below.refl _ _ | (refine bel_trans ?_ (by assumption)) | apply bel_alloc | apply Below.drew)⟩
end Go.Proofs.YtjiilfbomcibjaaGreatDoor.V
