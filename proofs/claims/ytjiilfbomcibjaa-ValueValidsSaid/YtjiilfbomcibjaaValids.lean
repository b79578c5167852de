/- The law ValueValids returns true for every value, text and boolean and leaves them as they are. No condition. -/
import Derived.Test.YtjiilfbomcibjaaVal
import Derived.Test.YtjiilfbomcibjaaLaw
namespace Go.Proofs.Ytjiilfbomcibjaa.valueValids
open Go.ChangeShapes Go.WideShapes Go.ChangeAt Go.RowKit Go.Proofs.Ytjiilfbomcibjaa.V Go.Proofs.Ytjiilfbomcibjaa.L Go.Joins
open Go.ChangeMaps (open_string)
theorem laidOut : laidOutB Try.prog = true := by kernel_rfl
theorem own : ownKnob Try.prog.godebug = none := by kernel_rfl
theorem textOf_ok (s : ByteArray) (hs : ¬ 100 < s.size) : textOf s = .tuple #[val 2 0 s, .int .i64 0] := by unfold textOf; rw [if_neg hs]
theorem textOf_long (s : ByteArray) (hs : 100 < s.size) : textOf s = .tuple #[val 0 0 ⟨#[]⟩, .int .i64 5] := by unfold textOf; rw [if_pos hs]
theorem v_int (n : Int) (w : World) : Calls Try.prog 9 #[val 1 n ⟨#[]⟩] w fun e w' => e = .returned (.bool true) ∧ Below w.heap.size w w' := by
  have h := c_Valid 1 n ⟨#[]⟩ w
  rwa [show valid 1 n ⟨#[]⟩ = true by simp [valid]] at h
theorem v_bool (m : Int) (hm : m = 0 ∨ m = 1) (w : World) : Calls Try.prog 9 #[val 3 m ⟨#[]⟩] w fun e w' => e = .returned (.bool true) ∧ Below w.heap.size w w' := by
  have h := c_Valid 3 m ⟨#[]⟩ w
  rwa [show valid 3 m ⟨#[]⟩ = true by (rcases hm with rfl | rfl <;> simp [valid])] at h
theorem v_text (s : ByteArray) (hs : ¬ 100 < s.size) (w : World) : Calls Try.prog 9 #[val 2 0 s] w fun e w' => e = .returned (.bool true) ∧ Below w.heap.size w w' := by
  have h := c_Valid 2 0 s w
  rwa [show valid 2 0 s = true by (simp [valid]; omega)] at h
theorem s_same (k n : Int) (s : ByteArray) (w : World) : Calls Try.prog 11 #[val k n s, val k n s] w fun e w' => e = .returned (.bool true) ∧ Below w.heap.size w w' := by
  have h := r_Same k n s k n s w
  rwa [show same k n s k n s = true by simp [same]] at h
set_option maxHeartbeats 1000000 in
theorem walk_ok (k n : Int) (s0 s : ByteArray) (m : Int) (b : Bool) (hm : m = 0 ∨ m = 1) (hbv : ∀ w, Calls Try.prog 8 #[.bool b] w fun e w' => e = .returned (val 3 m ⟨#[]⟩) ∧ Below w.heap.size w w')
    (hbr : ∀ w, Calls Try.prog 13 #[.bool b] w fun e w' => e = .returned (val 3 m ⟨#[]⟩) ∧ Below w.heap.size w w') (hs : ¬ 100 < s.size) (w : World) : Calls Try.prog 3 #[val k n s0, .string s, .bool b] w fun e w' => e = .returned (.bool true) ∧ Below w.heap.size w w' := by
  have HT := Lib.hid (textOf_ok s hs)
  have Hbv := Lib.hid hbv
  have Hbr := Lib.hid hbr
  have Hm := Lib.hid hm
  clear hbv hbr hm
  go_enter Try.func3, Try.ntmps3
  go_wp2_with fail
  refine (r_Text _ _).mono ?_
  rw [HT.out]; rintro e w1 ⟨rfl, hb1⟩; obtain ⟨hc, hf⟩ := bcell hb1; have z1 : w.heap.size < w1.heap.size := by (have h1 := hb1.size; (try simp at h1); omega)
  go_wp2_with fail
  refine (c_Text _ _).mono ?_
  rw [HT.out]; rintro e w2 ⟨rfl, hb2⟩; obtain ⟨hc, hf⟩ := bcell hb2; have z2 : w1.heap.size < w2.heap.size := by (have h1 := hb2.size; (try simp at h1); omega)
  have z2' : w.heap.size < w2.heap.size := by omega
  go_wp2_with fail
  refine (c_Int _ _).mono ?_
  rintro e w3 ⟨rfl, hb3⟩; obtain ⟨hc, hf⟩ := bcell hb3; have z3 : w2.heap.size < w3.heap.size := by (have h1 := hb3.size; (try simp at h1); omega)
  have z3' : w.heap.size < w3.heap.size ∧ w1.heap.size < w3.heap.size := by omega
  go_wp2_with fail
  refine (Hbv.out _).mono ?_
  rintro e w4 ⟨rfl, hb4⟩; obtain ⟨hc, hf⟩ := bcell hb4; have z4 : w3.heap.size < w4.heap.size := by (have h1 := hb4.size; (try simp at h1); omega)
  have z4' : w.heap.size < w4.heap.size ∧ w1.heap.size < w4.heap.size ∧ w2.heap.size < w4.heap.size := by omega
  go_wp2_with fail
  have y01 : w.heap.size ≤ w1.heap.size := by omega
  have y02 : w.heap.size ≤ w2.heap.size := by omega
  have y03 : w.heap.size ≤ w3.heap.size := by omega
  have y04 : w.heap.size ≤ w4.heap.size := by omega
  have y12 : w1.heap.size ≤ w2.heap.size := by omega
  have y13 : w1.heap.size ≤ w3.heap.size := by omega
  have y14 : w1.heap.size ≤ w4.heap.size := by omega
  have y23 : w2.heap.size ≤ w3.heap.size := by omega
  have y24 : w2.heap.size ≤ w4.heap.size := by omega
  have y34 : w3.heap.size ≤ w4.heap.size := by omega
  refine region_far (by kernel_rfl) (by kernel_rfl) ?_
  repeat (go_big_quiet_step ((first | (go_at_call 9; first | (with_reducible exact call_far (v_int _ _)) | (with_reducible exact call_far (v_bool _ Hm.out _)) | (with_reducible exact call_far (v_text _ hs _)) | (with_reducible exact call_far (c_Valid _ _ _ _))) | (go_at_call 10; with_reducible exact call_far (r_Valid _ _ _ _)) | (go_at_call 11; with_reducible exact call_far (s_same _ _ _ _)) | (go_at_call 12; with_reducible exact call_far (r_Int _ _)) | (go_at_call 13; with_reducible exact call_far (Hbr.out _)))))
  refine wpQuiet_nil ?_
  intro wq hbq
  go_wp2
  go_ret
  exact ⟨rfl, by repeat (first | exact Below.refl _ _ | apply bel_alloc | refine bel_trans ?_ (by assumption))⟩
set_option maxHeartbeats 1000000 in
theorem walk_long (k n : Int) (s0 s : ByteArray) (m : Int) (b : Bool) (hm : m = 0 ∨ m = 1) (hbv : ∀ w, Calls Try.prog 8 #[.bool b] w fun e w' => e = .returned (val 3 m ⟨#[]⟩) ∧ Below w.heap.size w w')
    (hbr : ∀ w, Calls Try.prog 13 #[.bool b] w fun e w' => e = .returned (val 3 m ⟨#[]⟩) ∧ Below w.heap.size w w') (hs : 100 < s.size) (w : World) : Calls Try.prog 3 #[val k n s0, .string s, .bool b] w fun e w' => e = .returned (.bool true) ∧ Below w.heap.size w w' := by
  have HT := Lib.hid (textOf_long s hs)
  have Hbv := Lib.hid hbv
  have Hbr := Lib.hid hbr
  have Hm := Lib.hid hm
  clear hbv hbr hm
  go_enter Try.func3, Try.ntmps3
  go_wp2_with fail
  refine (r_Text _ _).mono ?_
  rw [HT.out]; rintro e w1 ⟨rfl, hb1⟩; obtain ⟨hc, hf⟩ := bcell hb1; have z1 : w.heap.size < w1.heap.size := by (have h1 := hb1.size; (try simp at h1); omega)
  go_wp2_with fail
  refine (c_Text _ _).mono ?_
  rw [HT.out]; rintro e w2 ⟨rfl, hb2⟩; obtain ⟨hc, hf⟩ := bcell hb2; have z2 : w1.heap.size < w2.heap.size := by (have h1 := hb2.size; (try simp at h1); omega)
  have z2' : w.heap.size < w2.heap.size := by omega
  go_wp2_with fail
  refine (c_Int _ _).mono ?_
  rintro e w3 ⟨rfl, hb3⟩; obtain ⟨hc, hf⟩ := bcell hb3; have z3 : w2.heap.size < w3.heap.size := by (have h1 := hb3.size; (try simp at h1); omega)
  have z3' : w.heap.size < w3.heap.size ∧ w1.heap.size < w3.heap.size := by omega
  go_wp2_with fail
  refine (Hbv.out _).mono ?_
  rintro e w4 ⟨rfl, hb4⟩; obtain ⟨hc, hf⟩ := bcell hb4; have z4 : w3.heap.size < w4.heap.size := by (have h1 := hb4.size; (try simp at h1); omega)
  have z4' : w.heap.size < w4.heap.size ∧ w1.heap.size < w4.heap.size ∧ w2.heap.size < w4.heap.size := by omega
  go_wp2_with fail
  have y01 : w.heap.size ≤ w1.heap.size := by omega
  have y02 : w.heap.size ≤ w2.heap.size := by omega
  have y03 : w.heap.size ≤ w3.heap.size := by omega
  have y04 : w.heap.size ≤ w4.heap.size := by omega
  have y12 : w1.heap.size ≤ w2.heap.size := by omega
  have y13 : w1.heap.size ≤ w3.heap.size := by omega
  have y14 : w1.heap.size ≤ w4.heap.size := by omega
  have y23 : w2.heap.size ≤ w3.heap.size := by omega
  have y24 : w2.heap.size ≤ w4.heap.size := by omega
  have y34 : w3.heap.size ≤ w4.heap.size := by omega
  refine region_far (by kernel_rfl) (by kernel_rfl) ?_
  repeat (go_big_quiet_step ((first | (go_at_call 9; first | (with_reducible exact call_far (v_int _ _)) | (with_reducible exact call_far (v_bool _ Hm.out _)) | (with_reducible exact call_far (c_Valid _ _ _ _))) | (go_at_call 10; with_reducible exact call_far (r_Valid _ _ _ _)) | (go_at_call 11; with_reducible exact call_far (s_same _ _ _ _)) | (go_at_call 12; with_reducible exact call_far (r_Int _ _)) | (go_at_call 13; with_reducible exact call_far (Hbr.out _)))))
  refine wpQuiet_nil ?_
  intro wq hbq
  go_wp2
  go_ret
  exact ⟨rfl, by repeat (first | exact Below.refl _ _ | apply bel_alloc | refine bel_trans ?_ (by assumption))⟩

theorem bools (b : Bool) : ∃ m : Int, (m = 0 ∨ m = 1) ∧ (∀ w, Calls Try.prog 8 #[.bool b] w fun e w' => e = .returned (val 3 m ⟨#[]⟩) ∧ Below w.heap.size w w') ∧
    (∀ w, Calls Try.prog 13 #[.bool b] w fun e w' => e = .returned (val 3 m ⟨#[]⟩) ∧ Below w.heap.size w w') := by
  cases b
  · exact ⟨0, .inl rfl, c_Bool false, r_Bool false⟩
  · exact ⟨1, .inr rfl, c_Bool true, r_Bool true⟩
theorem walk (k n : Int) (s0 s : ByteArray) (b : Bool) (w : World) : Calls Try.prog 3 #[val k n s0, .string s, .bool b] w fun e w' => e = .returned (.bool true) ∧ Below w.heap.size w w' := by
  obtain ⟨m, hm, hv, hr⟩ := bools b
  by_cases hs : 100 < s.size
  · exact walk_long k n s0 s m b hm hv hr hs w
  · exact walk_ok k n s0 s m b hm hv hr hs w

set_option maxRecDepth 100000 in
theorem lifted (os : Os) (started : os.Started) (H : Type) (enc : TypeId × Value → H) :
    ReturnsInHanded {} Try.checked os 3 .any (Rows.valueValidsSpec.pre6 enc Try.prog Try.f3 Rows.valueValidsRow.domain false) (Rows.valueValidsSpec.post enc Try.prog Try.f3 false true false false) := by
  refine returnsInHanded_of_change (C := Try.checked) own started (by kernel_rfl) Try.func3
    (ChangeSpec.witness6 (enc := enc) (C := Try.checked) false ⟨#[], #[val 0 0 ⟨#[]⟩, .string ⟨#[]⟩, .bool false], []⟩ 8 (by kernel_rfl) (by kernel_rfl) (by kernel_rfl) (by kernel_rfl)) ?_
  intro W base args ds gs before hval0 hW hcnd _
  have hval : ∀ (j : Nat) t v, Try.f3.params[j]? = some t → args[j]? = some v → Value.okWide Try.prog W .any base t v := hval0
  have hW' := hW
  obtain ⟨p, q, hA0, hV, rfl, hfz, hnd⟩ := hW
  have hA : DataW.TrodAll enc Try.prog W 0 (fun _ => true) true Try.f3.params.toList args.toList ds p := hA0
  rw [Try.params3] at hA hval
  obtain ⟨v0, vs0, d0, ds0, p0, q0, hargs, rfl, rfl, h0, r0⟩ := trodAll_cons hA
  obtain ⟨v1, vs1, d1, ds1, p1, q1, rfl, rfl, rfl, h1, r1⟩ := trodAll_cons r0
  obtain ⟨v2, vs2, d2, ds2, p2, q2, rfl, rfl, rfl, h2, r2⟩ := trodAll_cons r1
  obtain ⟨rfl, rfl, rfl⟩ := trodAll_nil r2
  obtain rfl : args = #[v0, v1, v2] := by cases args; simp_all
  obtain ⟨rfl, rfl⟩ := trodVars_none hV
  obtain ⟨k, n, s0, rfl, rfl, _, _, _⟩ := open_val (hval 0 24 v0 rfl rfl) h0
  obtain ⟨s, rfl, rfl, rfl, _⟩ := open_string Try.underlying9 (hval 1 9 v1 rfl rfl) h1
  obtain ⟨b, rfl, rfl, rfl⟩ := open_bool Try.underlying4 (hval 2 4 v2 rfl rfl) h2
  refine (walk k n s0 s b W).mono fun e W' ⟨he, hb⟩ => ?_
  subst he
  exact ⟨_, rfl, law_post laidOut (by kernel_rfl) rfl Try.underlying4 rfl rfl hW' hb⟩

theorem over : Rows.valueValidsRow.holds Try.pinned (OpenSpec.ofChange Rows.valueValidsSpec) :=
  OpenClaim.holds_of_wide 3 Try.f3 rfl rfl rfl rfl rfl rfl rfl ⟨rfl, rfl, rfl, rfl, rfl⟩ rfl rfl rfl rfl rfl (by kernel_rfl) Try.func3 (by kernel_rfl)
    (of_decide_eq_true (by kernel_rfl)) (by unfold Func.isWrapper; first | (rw [if_pos (by decide +kernel)]; kernel_rfl) | (rw [if_neg (by decide +kernel)]; exact ⟨rfl, rfl⟩))
    (fun os started H enc _ => lifted os started H enc)
theorem proved : Rows.ValueValidsSaid := over
end Go.Proofs.Ytjiilfbomcibjaa.valueValids
