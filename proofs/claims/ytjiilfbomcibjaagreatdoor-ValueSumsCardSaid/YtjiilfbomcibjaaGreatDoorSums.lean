/- The law ValueSums returns true for any two integers. No condition. -/
import Derived.Test.YtjiilfbomcibjaaGreatDoorAwake
import Derived.Test.YtjiilfbomcibjaaGreatDoorCards
namespace Go.Proofs.YtjiilfbomcibjaaGreatDoor.valueSums
open Go.ChangeShapes Go.WideShapes Go.ChangeAt Go.RowKit Go.Proofs.YtjiilfbomcibjaaGreatDoor.V Go.Proofs.YtjiilfbomcibjaaGreatDoor.L Go.Joins
open Go.ChangeMaps (open_string)
theorem laidOut : laidOutB Tryz.prog = true := by kernel_rfl
theorem own : ownKnob Tryz.prog.godebug = none := by kernel_rfl
theorem exact_pair (x : Int) : ∃ n e, exact x = pair n e := by unfold exact; split <;> exact ⟨_, _, rfl⟩
theorem divV_pair (a b : Int) : ∃ n e, divV a b = pair n e := by
  unfold divV
  split
  · exact ⟨_, _, rfl⟩
  · first | exact ⟨_, _, rfl⟩ | exact exact_pair _ | (split <;> first | exact ⟨_, _, rfl⟩ | exact exact_pair _)
theorem modV_pair (a b : Int) : ∃ n e, modV a b = pair n e := by
  unfold modV
  split <;> exact ⟨_, _, rfl⟩
theorem l_sum (n e : Int) (w : World) : Calls Tryz.prog 21 #[.int .i64 n, .int .i64 e, .int .i64 n, .int .i64 e] w fun x w' => x = .returned (.bool true) ∧ w = w' := by
  go_enter Tryz.func21, Tryz.ntmps21
  go_wp2
  go_ret
  exact ⟨rfl, rfl⟩
set_option maxHeartbeats 1000000 in
theorem walk (a b : Int) (ha : Fits a) (hb : Fits b) (w : World) (E : Env w) : Calls Tryz.prog 6 #[.int .i64 a, .int .i64 b] w fun e w' => e = .returned (.bool true) ∧ Below w.heap.size w w' := by
  obtain ⟨n1, e1, h1⟩ := exact_pair (a + b)
  obtain ⟨n2, e2, h2⟩ := exact_pair (a - b)
  obtain ⟨n3, e3, h3⟩ := exact_pair (a * b)
  obtain ⟨n4, e4, h4⟩ := divV_pair a b
  obtain ⟨n5, e5, h5⟩ := modV_pair a b
  have a1 : ∀ w, Calls Tryz.prog 20 #[.int .i64 a, .int .i64 b] w fun e w' => e = .returned (pair n1 e1) ∧ w = w' := fun w => h1 ▸ c_Add a b ha hb w
  have b1 : ∀ w, Calls Tryz.prog 19 #[.int .i64 a, .int .i64 b] w fun e w' => e = .returned (pair n1 e1) ∧ w = w' := fun w => h1 ▸ r_Add a b ha hb w
  have a2 : ∀ w, Calls Tryz.prog 22 #[.int .i64 a, .int .i64 b] w fun e w' => e = .returned (pair n2 e2) ∧ w = w' := fun w => h2 ▸ c_Sub a b ha hb w
  have b2 : ∀ w, Calls Tryz.prog 23 #[.int .i64 a, .int .i64 b] w fun e w' => e = .returned (pair n2 e2) ∧ w = w' := fun w => h2 ▸ r_Sub a b ha hb w
  have a3 : ∀ w, Calls Tryz.prog 24 #[.int .i64 a, .int .i64 b] w fun e w' => e = .returned (pair n3 e3) ∧ w = w' := fun w => h3 ▸ c_Mul a b ha hb w
  have b3 : ∀ w, Calls Tryz.prog 25 #[.int .i64 a, .int .i64 b] w fun e w' => e = .returned (pair n3 e3) ∧ w = w' := fun w => h3 ▸ r_Mul a b ha hb w
  have a4 : ∀ w, Calls Tryz.prog 26 #[.int .i64 a, .int .i64 b] w fun e w' => e = .returned (pair n4 e4) ∧ w = w' := fun w => h4 ▸ c_Div a b ha hb w
  have b4 : ∀ w, Calls Tryz.prog 27 #[.int .i64 a, .int .i64 b] w fun e w' => e = .returned (pair n4 e4) ∧ w = w' := fun w => h4 ▸ r_Div a b ha hb w
  have a5 : ∀ w, Calls Tryz.prog 28 #[.int .i64 a, .int .i64 b] w fun e w' => e = .returned (pair n5 e5) ∧ w = w' := fun w => h5 ▸ c_Mod a b ha w
  have b5 : ∀ w, Calls Tryz.prog 29 #[.int .i64 a, .int .i64 b] w fun e w' => e = .returned (pair n5 e5) ∧ w = w' := fun w => h5 ▸ r_Mod a b ha w
  clear h1 h2 h3 h4 h5
  have A1 := Lib.hid a1; have B1 := Lib.hid b1; have A2 := Lib.hid a2; have B2 := Lib.hid b2; have A3 := Lib.hid a3; have B3 := Lib.hid b3; have A4 := Lib.hid a4; have B4 := Lib.hid b4; have A5 := Lib.hid a5; have B5 := Lib.hid b5
  clear a1 b1 a2 b2 a3 b3 a4 b4 a5 b5
  go_enter Tryz.func6, Tryz.ntmps6
  go_wp2_with (first | (go_at_call 20; refine (A1.out _).mono ?_; rintro e w' ⟨rfl, rfl⟩) | (go_at_call 19; refine (B1.out _).mono ?_; rintro e w' ⟨rfl, rfl⟩) | (go_at_call 22; refine (A2.out _).mono ?_; rintro e w' ⟨rfl, rfl⟩) | (go_at_call 23; refine (B2.out _).mono ?_; rintro e w' ⟨rfl, rfl⟩) | (go_at_call 24; refine (A3.out _).mono ?_; rintro e w' ⟨rfl, rfl⟩) | (go_at_call 25; refine (B3.out _).mono ?_; rintro e w' ⟨rfl, rfl⟩) | (go_at_call 26; refine (A4.out _).mono ?_; rintro e w' ⟨rfl, rfl⟩) | (go_at_call 27; refine (B4.out _).mono ?_; rintro e w' ⟨rfl, rfl⟩) | (go_at_call 28; refine (A5.out _).mono ?_; rintro e w' ⟨rfl, rfl⟩) | (go_at_call 29; refine (B5.out _).mono ?_; rintro e w' ⟨rfl, rfl⟩) | (go_at_call 21; refine (l_sum _ _ _).mono ?_; rintro e w' ⟨rfl, rfl⟩) | (go_at_call 14; refine (awake _ (by assumption)).mono ?_; rintro e w' ⟨rfl, hb⟩))
  go_ret
  exact ⟨rfl, by assumption⟩
set_option maxRecDepth 100000 in
theorem lifted (os : Os) (started : os.Started) (H : Type) (enc : TypeId × Value → H) :
    ReturnsInHanded {} Tryz.checked os 6 .any (fun w args => (Rows.valueSumsSpec.pre enc Tryz.prog Tryz.f6 Rows.valueSumsRow.domain false w args ∧ laidMetH Tryz.prog laidList w) ∧ sizedMet enc Tryz.prog Tryz.f6 (OpenSpec.ofChange Rows.valueSumsSpec) false w args)
      (Rows.valueSumsSpec.post enc Tryz.prog Tryz.f6 false true false false) := by
  refine returnsInHanded_of_change_all (C := Tryz.checked) (X := fun w _ => laidMetH Tryz.prog laidList w) (fun _ _ _ hh h => h.of_heap hh) own started (by kernel_rfl) Tryz.func6
    (ChangeSpec.witness_shaped (enc := enc) (C := Tryz.checked) (os := os) (X := fun w _ => laidMetH Tryz.prog laidList w) false (World.laidAll Tryz.prog os laidList) #[.int .i64 0, .int .i64 0] 8 (World.laidAll_os _ _ _)
      (World.shaped_of_ZipB (by kernel_rfl) (by kernel_rfl)) (by kernel_rfl) (by kernel_rfl) (by kernel_rfl)
      (by rw [MakeChecks.laidMetH_plain _ _ _ plainList]; exact laidMet_laidAll _ (by kernel_rfl) (by kernel_rfl))) ?_
  intro W base args ds gs before hval0 hW hcnd _ hL hS _
  have E : Env W := env_of hL hS
  have hval : ∀ (j : Nat) t v, Tryz.f6.params[j]? = some t → args[j]? = some v → Value.okWide Tryz.prog W .any base t v := hval0
  have hW' := hW
  obtain ⟨p, q, hA0, hV, rfl, hfz, hnd⟩ := hW
  have hA : DataW.TrodAll enc Tryz.prog W 0 (fun _ => true) true Tryz.f6.params.toList args.toList ds p := hA0
  rw [Tryz.params6] at hA hval
  obtain ⟨v0, vs0, d0, ds0, p0, q0, hargs, rfl, rfl, h0, r0⟩ := trodAll_cons hA
  obtain ⟨v1, vs1, d1, ds1, p1, q1, rfl, rfl, rfl, h1, r1⟩ := trodAll_cons r0
  obtain ⟨rfl, rfl, rfl⟩ := trodAll_nil r1
  obtain rfl : args = #[v0, v1] := by cases args; simp_all
  obtain ⟨rfl, rfl⟩ := trodVars_none hV
  obtain ⟨n0, rfl, rfl, rfl, wn0⟩ := open_int Tryz.underlying2 (hval 0 2 v0 rfl rfl) h0
  obtain ⟨n1, rfl, rfl, rfl, wn1⟩ := open_int Tryz.underlying2 (hval 1 2 v1 rfl rfl) h1
  refine (walk n0 n1 (bounds_i64 wn0) (bounds_i64 wn1) W E).mono fun e W' ⟨he, hb⟩ => ?_
  subst he
  exact ⟨_, rfl, law_post laidOut (by kernel_rfl) rfl Tryz.underlying4 rfl rfl hW' hb⟩

theorem over : Rows.valueSumsRow.holds Tryz.pinned (OpenSpec.ofChange Rows.valueSumsSpec) :=
  OpenClaim.holds_of_wide 6 Tryz.f6 rfl rfl rfl rfl rfl rfl rfl ⟨rfl, rfl, rfl, rfl, rfl⟩ rfl rfl rfl rfl rfl (by kernel_rfl) Tryz.func6 (by kernel_rfl)
    (of_decide_eq_true (by kernel_rfl)) (by unfold Func.isWrapper; first | (rw [if_pos (by decide +kernel)]; kernel_rfl) | (rw [if_neg (by decide +kernel)]; exact ⟨rfl, rfl⟩))
    (fun os started H enc _ => lifted os started H enc)
set_option maxRecDepth 100000 in
theorem proved : Rows.ValueSumsCardSaid :=
  Claim7.holds_tied_plain_at .later [] [.data, .data, .data, .data, .sentinel, .sentinel, .pinned] true (true, "dc76aaaa3d15237a26b491520c5f0f51c4edc92f79f60971654b9608da9ea080") true over (fun _ h => by cases h) (by kernel_rfl) (fun _ h => by cases h) valueSums_row_tie rfl ⟨rfl, rfl⟩ (by kernel_rfl) rfl
    (fun f fn hf hfn => by
      obtain rfl : f = 6 := Option.some.inj ((show Tryz.prog.funcNamed "jointer/jointerlaw01.ValueSums" = some 6 by kernel_rfl).symm.trans hf) |>.symm
      obtain rfl : fn = Tryz.f6 := (Option.some.inj (Tryz.func6.symm.trans hfn)).symm
      exact ⟨by kernel_rfl, fun j t ht => by
        rw [Tryz.params6] at ht
        have hm : t ∈ [2, 2] := by simpa using Array.mem_of_getElem? ht
        have hall : ([2, 2].all fun u => !Tryz.prog.wantsStandIn u) = true := by kernel_rfl
        exact (show Tryz.prog.wantsStandIn t = false by simpa using List.all_eq_true.1 hall t hm)⟩)
    (by kernel_rfl)
end Go.Proofs.YtjiilfbomcibjaaGreatDoor.valueSums
