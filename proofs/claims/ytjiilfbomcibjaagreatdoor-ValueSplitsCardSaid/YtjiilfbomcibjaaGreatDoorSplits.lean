/- The law ValueSplits returns true for any five texts. No condition. -/
import Derived.Test.YtjiilfbomcibjaaGreatDoorAwake
import Derived.Test.YtjiilfbomcibjaaGreatDoorDp
import Derived.Test.YtjiilfbomcibjaaGreatDoorCards
namespace Go.Proofs.YtjiilfbomcibjaaGreatDoor.valueSplits
open Go.ChangeShapes Go.WideShapes Go.ChangeAt Go.RowKit Go.Proofs.YtjiilfbomcibjaaGreatDoor.V Go.Proofs.YtjiilfbomcibjaaGreatDoor.L Go.Joins
open Go.ChangeMaps (open_string)
theorem laidOut : laidOutB Tryz.prog = true := by kernel_rfl
theorem own : ownKnob Tryz.prog.godebug = none := by kernel_rfl
set_option maxHeartbeats 1000000 in
theorem walk_no (a b p q c : ByteArray) (h1 : (∀ w, Calls Tryz.prog 31 #[.string a, .string p] w fun e w' => e = .returned (.bool false) ∧ Below w.heap.size w w') ∨
    ((∀ w, Calls Tryz.prog 31 #[.string a, .string p] w fun e w' => e = .returned (.bool true) ∧ Below w.heap.size w w') ∧ (∀ w, Calls Tryz.prog 31 #[.string b, .string q] w fun e w' => e = .returned (.bool false) ∧ Below w.heap.size w w'))) (w : World) (E : Env w) :
    Calls Tryz.prog 9 #[.string a, .string b, .string p, .string q, .string c] w fun e w' => e = .returned (.bool true) ∧ Below w.heap.size w w' := by
  have H := Lib.hid h1
  clear h1
  go_enter Tryz.func9, Tryz.ntmps9
  go_wp2_with fail
  rcases H.out with h1 | ⟨h1, h2⟩
  · refine (h1 _).mono ?_
    rintro e w1 ⟨rfl, hb1⟩
    have E1 := E.below hb1
    go_wp2_with fail
    refine (awake _ (by assumption)).mono ?_
    rintro e wz ⟨rfl, hbz⟩
    go_wp2
    go_ret
    exact ⟨rfl, by repeat (first | exact Below.refl _ _ | (refine bel_trans ?_ (by assumption)) | apply bel_alloc | apply Below.drew)⟩
  · refine (h1 _).mono ?_
    rintro e w1 ⟨rfl, hb1⟩
    have E1 := E.below hb1
    go_wp2_with fail
    refine (h2 _).mono ?_
    rintro e w2 ⟨rfl, hb2⟩
    have E2 := E1.below hb2
    go_wp2_with fail
    refine (awake _ (by assumption)).mono ?_
    rintro e wz ⟨rfl, hbz⟩
    go_wp2
    go_ret
    exact ⟨rfl, by repeat (first | exact Below.refl _ _ | (refine bel_trans ?_ (by assumption)) | apply bel_alloc | apply Below.drew)⟩
set_option maxHeartbeats 1000000 in
theorem walk_yes (a b p q c : ByteArray) (h1 : (∀ w, Calls Tryz.prog 31 #[.string a, .string p] w fun e w' => e = .returned (.bool true) ∧ Below w.heap.size w w'))
    (h2 : (∀ w, Calls Tryz.prog 31 #[.string b, .string q] w fun e w' => e = .returned (.bool true) ∧ Below w.heap.size w w')) 
    (h3 : (∀ w, Calls Tryz.prog 31 #[.string (a ++ b), .string (p ++ q)] w fun e w' => e = .returned (.bool true) ∧ Below w.heap.size w w'))
    (h4 : (∀ w, Calls Tryz.prog 31 #[.string (a ++ c ++ b), .string (p ++ ⟨#[37]⟩ ++ q)] w fun e w' => e = .returned (.bool true) ∧ Below w.heap.size w w'))
    (_ : a.size ≤ 140737488351232) (_ : b.size ≤ 140737488351232) (_ : p.size ≤ 140737488351232) (_ : q.size ≤ 140737488351232) (_ : c.size ≤ 140737488351232) (w : World) (E : Env w) :
    Calls Tryz.prog 9 #[.string a, .string b, .string p, .string q, .string c] w fun e w' => e = .returned (.bool true) ∧ Below w.heap.size w w' := by
  have H1 := Lib.hid h1
  have H3 := Lib.hid h3
  have H4 := Lib.hid h4
  have H2 := Lib.hid h2
  clear h1 h2 h3 h4
  go_enter Tryz.func9, Tryz.ntmps9
  go_wp2_with fail
  refine (H1.out _).mono ?_
  rintro e w1 ⟨rfl, hb1⟩
  have E1 := E.below hb1
  go_wp2_with fail
  refine (H2.out _).mono ?_
  rintro e w2 ⟨rfl, hb2⟩
  have E2 := E1.below hb2
  go_wp2_with fail
  refine (H3.out _).mono ?_
  rintro e w3 ⟨rfl, hb3⟩
  have E3 := E2.below hb3
  go_wp2_with fail
  refine (H4.out _).mono ?_
  rintro e w4 ⟨rfl, hb4⟩
  have E4 := E3.below hb4
  go_wp2_with fail
  refine (awake _ (by assumption)).mono ?_
  rintro e wz ⟨rfl, hbz⟩
  go_wp2
  go_ret
  exact ⟨rfl, by repeat (first | exact Below.refl _ _ | (refine bel_trans ?_ (by assumption)) | apply bel_alloc | apply Below.drew)⟩
theorem walk (a b p q c : ByteArray) (ha : a.size ≤ 140737488351232) (hb : b.size ≤ 140737488351232) (hp : p.size ≤ 140737488351232) (hq : q.size ≤ 140737488351232) (hc : c.size ≤ 140737488351232) (w : World) (E : Env w) :
    Calls Tryz.prog 9 #[.string a, .string b, .string p, .string q, .string c] w fun e w' => e = .returned (.bool true) ∧ Below w.heap.size w w' := by
  have m1 := c_Matches a p (by unfold maxLen; omega) (by unfold maxLen; omega)
  have m2 := c_Matches b q (by unfold maxLen; omega) (by unfold maxLen; omega)
  cases e1 : matchB a p with
  | false => exact walk_no a b p q c (.inl (e1 ▸ m1)) w E
  | true =>
    cases e2 : matchB b q with
    | false => exact walk_no a b p q c (.inr ⟨e1 ▸ m1, e2 ▸ m2⟩) w E
    | true =>
      have m3 := c_Matches (a ++ b) (p ++ q) (by rw [ByteArray.size_append]; unfold maxLen; omega) (by rw [ByteArray.size_append]; unfold maxLen; omega)
      have m4 := c_Matches (a ++ c ++ b) (p ++ ⟨#[37]⟩ ++ q) (by rw [ByteArray.size_append, ByteArray.size_append]; unfold maxLen; omega) (by rw [ByteArray.size_append, ByteArray.size_append, show (⟨#[37]⟩ : ByteArray).size = 1 from rfl]; unfold maxLen; omega)
      have l1 : ∀ x y : ByteArray, (x ++ y).data.toList = x.data.toList ++ y.data.toList := fun x y => by rw [ByteArray.data_append, Array.toList_append]
      have e3 : matchB (a ++ b) (p ++ q) = true := by
        unfold matchB at *
        rw [l1, l1, M.mt_append]
        exact ⟨_, _, rfl, e1, e2⟩
      have e4 : matchB (a ++ c ++ b) (p ++ ⟨#[37]⟩ ++ q) = true := by
        unfold matchB at *
        rw [l1, l1, l1, l1, M.mt_append]
        exact ⟨_, _, rfl, (M.mt_append _ _ _).2 ⟨_, _, rfl, e1, M.mt_any _⟩, e2⟩
      exact walk_yes a b p q c (e1 ▸ m1) (e2 ▸ m2) (e3 ▸ m3) (e4 ▸ m4) ha hb hp hq hc w E
set_option maxRecDepth 100000 in
theorem lifted (os : Os) (started : os.Started) (H : Type) (enc : TypeId × Value → H) :
    ReturnsInHanded {} Tryz.checked os 9 .any (fun w args => (Rows.valueSplitsSpec.pre enc Tryz.prog Tryz.f9 Rows.valueSplitsRow.domain false w args ∧ laidMetH Tryz.prog laidList w) ∧ sizedMet enc Tryz.prog Tryz.f9 (OpenSpec.ofChange Rows.valueSplitsSpec) false w args)
      (Rows.valueSplitsSpec.post enc Tryz.prog Tryz.f9 false true false false) := by
  refine returnsInHanded_of_change_all (C := Tryz.checked) (X := fun w _ => laidMetH Tryz.prog laidList w) (fun _ _ _ hh h => h.of_heap hh) own started (by kernel_rfl) Tryz.func9
    (ChangeSpec.witness_shaped (enc := enc) (C := Tryz.checked) (os := os) (X := fun w _ => laidMetH Tryz.prog laidList w) false (World.laidAll Tryz.prog os laidList) #[.string ⟨#[]⟩, .string ⟨#[]⟩, .string ⟨#[]⟩, .string ⟨#[]⟩, .string ⟨#[]⟩] 8 (World.laidAll_os _ _ _)
      (World.shaped_of_ZipB (by kernel_rfl) (by kernel_rfl)) (by kernel_rfl) (by kernel_rfl) (by kernel_rfl)
      (by rw [MakeChecks.laidMetH_plain _ _ _ plainList]; exact laidMet_laidAll _ (by kernel_rfl) (by kernel_rfl))) ?_
  intro W base args ds gs before hval0 hW hcnd hZ hL hS _
  have E : Env W := env_of hL hS
  have hval : ∀ (j : Nat) t v, Tryz.f9.params[j]? = some t → args[j]? = some v → Value.okWide Tryz.prog W .any base t v := hval0
  have hW' := hW
  obtain ⟨p, q, hA0, hV, rfl, hfz, hnd⟩ := hW
  have hA : DataW.TrodAll enc Tryz.prog W 0 (fun _ => true) true Tryz.f9.params.toList args.toList ds p := hA0
  rw [Tryz.params9] at hA hval
  obtain ⟨v0, vs0, d0, ds0, p0, q0, hargs, rfl, rfl, h0, r0⟩ := trodAll_cons hA
  obtain ⟨v1, vs1, d1, ds1, p1, q1, rfl, rfl, rfl, h1, r1⟩ := trodAll_cons r0
  obtain ⟨v2, vs2, d2, ds2, p2, q2, rfl, rfl, rfl, h2, r2⟩ := trodAll_cons r1
  obtain ⟨v3, vs3, d3, ds3, p3, q3, rfl, rfl, rfl, h3, r3⟩ := trodAll_cons r2
  obtain ⟨v4, vs4, d4, ds4, p4, q4, rfl, rfl, rfl, h4, r4⟩ := trodAll_cons r3
  obtain ⟨rfl, rfl, rfl⟩ := trodAll_nil r4
  obtain rfl : args = #[v0, v1, v2, v3, v4] := by cases args; simp_all
  obtain ⟨rfl, rfl⟩ := trodVars_none hV
  obtain ⟨s0, rfl, rfl, rfl, hs0⟩ := open_string Tryz.underlying9 (hval 0 9 v0 rfl rfl) h0
  obtain ⟨s1, rfl, rfl, rfl, hs1⟩ := open_string Tryz.underlying9 (hval 1 9 v1 rfl rfl) h1
  obtain ⟨s2, rfl, rfl, rfl, hs2⟩ := open_string Tryz.underlying9 (hval 2 9 v2 rfl rfl) h2
  obtain ⟨s3, rfl, rfl, rfl, hs3⟩ := open_string Tryz.underlying9 (hval 3 9 v3 rfl rfl) h3
  obtain ⟨s4, rfl, rfl, rfl, hs4⟩ := open_string Tryz.underlying9 (hval 4 9 v4 rfl rfl) h4
  have z0 : s0.size ≤ 140737488351232 := by have h := sized_string hZ (j := 0) (t := 9) rfl rfl; simpa [reachBytes] using h
  have z1 : s1.size ≤ 140737488351232 := by have h := sized_string hZ (j := 1) (t := 9) rfl rfl; simpa [reachBytes] using h
  have z2 : s2.size ≤ 140737488351232 := by have h := sized_string hZ (j := 2) (t := 9) rfl rfl; simpa [reachBytes] using h
  have z3 : s3.size ≤ 140737488351232 := by have h := sized_string hZ (j := 3) (t := 9) rfl rfl; simpa [reachBytes] using h
  have z4 : s4.size ≤ 140737488351232 := by have h := sized_string hZ (j := 4) (t := 9) rfl rfl; simpa [reachBytes] using h
  refine (walk s0 s1 s2 s3 s4 z0 z1 z2 z3 z4 W E).mono fun e W' ⟨he, hb⟩ => ?_
  subst he
  exact ⟨_, rfl, law_post laidOut (by kernel_rfl) rfl Tryz.underlying4 rfl rfl hW' hb⟩

theorem over : Rows.valueSplitsRow.holds Tryz.pinned (OpenSpec.ofChange Rows.valueSplitsSpec) :=
  OpenClaim.holds_of_wide 9 Tryz.f9 rfl rfl rfl rfl rfl rfl rfl ⟨rfl, rfl, rfl, rfl, rfl⟩ rfl rfl rfl rfl rfl (by kernel_rfl) Tryz.func9 (by kernel_rfl)
    (of_decide_eq_true (by kernel_rfl)) (by unfold Func.isWrapper; first | (rw [if_pos (by decide +kernel)]; kernel_rfl) | (rw [if_neg (by decide +kernel)]; exact ⟨rfl, rfl⟩))
    (fun os started H enc _ => lifted os started H enc)
set_option maxRecDepth 100000 in
theorem proved : Rows.ValueSplitsCardSaid :=
  Claim7.holds_tied_plain_at .later [] [.data, .data, .data, .data, .sentinel, .sentinel, .pinned] true (true, "dc76aaaa3d15237a26b491520c5f0f51c4edc92f79f60971654b9608da9ea080") true over (fun _ h => by cases h) (by kernel_rfl) (fun _ h => by cases h) valueSplits_row_tie rfl ⟨rfl, rfl⟩ (by kernel_rfl) rfl
    (fun f fn hf hfn => by
      obtain rfl : f = 9 := Option.some.inj ((show Tryz.prog.funcNamed "jointer/jointerlaw01.ValueSplits" = some 9 by kernel_rfl).symm.trans hf) |>.symm
      obtain rfl : fn = Tryz.f9 := (Option.some.inj (Tryz.func9.symm.trans hfn)).symm
      exact ⟨by kernel_rfl, fun j t ht => by
        rw [Tryz.params9] at ht
        have hm : t ∈ [9, 9, 9, 9, 9] := by simpa using Array.mem_of_getElem? ht
        have hall : ([9, 9, 9, 9, 9].all fun u => !Tryz.prog.wantsStandIn u) = true := by kernel_rfl
        exact (show Tryz.prog.wantsStandIn t = false by simpa using List.all_eq_true.1 hall t hm)⟩)
    (by kernel_rfl)
end Go.Proofs.YtjiilfbomcibjaaGreatDoor.valueSplits
