/- Contracts of the small functions of package calc and of its reference: outs made, errors, validity. -/
import Derived.Test.YtefelelhgepkeaaGreatDoorVal
import Derived.Test.YtefelelhgepkeaaGreatDoorKc
import Derived.LoopTactic
import Derived.Deep.LoopGhost
namespace Go.Proofs.YtefelelhgepkeaaGreatDoor.K
open Go.ChangeShapes Go.WideShapes Go.ChangeAt Go.RowKit Go.Proofs.YtefelelhgepkeaaGreatDoor.V
/-- A call that hands back this value, and writes into nothing that was there. -/
abbrev Ret (f : FuncId) (args : Array Value) (w : World) (v : Value) : Prop := Calls Tryz.prog f args w fun e w' => e = .returned v ∧ Below w.heap.size w w'
/-- An out, as the walk carries it. -/
abbrev ov (k n : Int) (s : ByteArray) (e : Int) : Value := .agg #[.int .u8 k, .int .i64 n, .string s, .int .i64 e]
abbrev enc (o : Ot) : Value := ov o.k o.n o.s o.e
theorem valid_is : valid = vd := rfl
theorem ret_v {a b : Value} (h : a = b) : Ending.returned a = .returned b := by rw [h]
theorem c_null (w : World) : Ret 66 #[] w (ov 0 0 ⟨#[]⟩ 0) := by
  go_enter Tryz.func66, Tryz.ntmps66
  go_wp2
  exact bodyPost_ret (v := ov 0 0 ⟨#[]⟩ 0) (by simp [results, Tryz.results66, go_sem, *]) rfl ⟨rfl, by repeat (first | exact Below.refl _ _ | assumption | (refine bel_trans ?_ (by assumption)) | (with_reducible apply bel_alloc) | (with_reducible apply Below.drew) | apply bel_alloc | apply Below.drew | refine bel_set ?_ (by simp; try omega) _)⟩
theorem c_truth (b : Bool) (w : World) : Ret 59 #[.bool b] w (ov 3 (if b then 1 else 0) ⟨#[]⟩ 0) := by
  cases b
  · go_enter Tryz.func59, Tryz.ntmps59
    go_wp2_with fail
    refine (c_Bool_f _).mono ?_; rintro e w1 ⟨rfl, hbw1⟩; obtain ⟨hcw1, hfw1⟩ := bcell hbw1; have hzw1 := hbw1.size; (try simp [World.drew] at hzw1)
    go_wp2
    exact bodyPost_ret (v := ov 3 0 ⟨#[]⟩ 0) (by simp [results, Tryz.results59, go_sem, *]) rfl ⟨rfl, by repeat (first | exact Below.refl _ _ | assumption | (refine bel_trans ?_ (by assumption)) | (with_reducible apply bel_alloc) | (with_reducible apply Below.drew) | apply bel_alloc | apply Below.drew | refine bel_set ?_ (by simp; try omega) _)⟩
  · go_enter Tryz.func59, Tryz.ntmps59
    go_wp2_with fail
    refine (c_Bool_t _).mono ?_; rintro e w1 ⟨rfl, hbw1⟩; obtain ⟨hcw1, hfw1⟩ := bcell hbw1; have hzw1 := hbw1.size; (try simp [World.drew] at hzw1)
    go_wp2
    exact bodyPost_ret (v := ov 3 1 ⟨#[]⟩ 0) (by simp [results, Tryz.results59, go_sem, *]) rfl ⟨rfl, by repeat (first | exact Below.refl _ _ | assumption | (refine bel_trans ?_ (by assumption)) | (with_reducible apply bel_alloc) | (with_reducible apply Below.drew) | apply bel_alloc | apply Below.drew | refine bel_set ?_ (by simp; try omega) _)⟩
theorem c_failing (e : Int) (w : World) : Ret 50 #[.int .i64 e] w (ov 0 0 ⟨#[]⟩ e) := by
  go_enter Tryz.func50, Tryz.ntmps50
  go_wp2
  exact bodyPost_ret (v := ov 0 0 ⟨#[]⟩ e) (by simp [results, Tryz.results50, go_sem, *]) rfl ⟨rfl, by repeat (first | exact Below.refl _ _ | assumption | (refine bel_trans ?_ (by assumption)) | (with_reducible apply bel_alloc) | (with_reducible apply Below.drew) | apply bel_alloc | apply Below.drew | refine bel_set ?_ (by simp; try omega) _)⟩
theorem r_Fail (e : Int) (w : World) : Ret 40 #[.int .i64 e] w (ov 0 0 ⟨#[]⟩ e) := by
  go_enter Tryz.func40, Tryz.ntmps40
  go_wp2
  exact bodyPost_ret (v := ov 0 0 ⟨#[]⟩ e) (by simp [results, Tryz.results40, go_sem, *]) rfl ⟨rfl, by repeat (first | exact Below.refl _ _ | assumption | (refine bel_trans ?_ (by assumption)) | (with_reducible apply bel_alloc) | (with_reducible apply Below.drew) | apply bel_alloc | apply Below.drew | refine bel_set ?_ (by simp; try omega) _)⟩
theorem r_Bool5 (b : Bool) (w : World) : Ret 28 #[.bool b] w (ov 3 (if b then 1 else 0) ⟨#[]⟩ 0) := by
  cases b
  · go_enter Tryz.func28, Tryz.ntmps28
    go_wp2_with fail
    refine (r_Bool false _).mono ?_; rintro e w1 ⟨rfl, hbw1⟩; obtain ⟨hcw1, hfw1⟩ := bcell hbw1; have hzw1 := hbw1.size; (try simp [World.drew] at hzw1)
    go_wp2
    exact bodyPost_ret (v := ov 3 0 ⟨#[]⟩ 0) (by simp [results, Tryz.results28, go_sem, *]) rfl ⟨rfl, by repeat (first | exact Below.refl _ _ | assumption | (refine bel_trans ?_ (by assumption)) | (with_reducible apply bel_alloc) | (with_reducible apply Below.drew) | apply bel_alloc | apply Below.drew | refine bel_set ?_ (by simp; try omega) _)⟩
  · go_enter Tryz.func28, Tryz.ntmps28
    go_wp2_with fail
    refine (r_Bool true _).mono ?_; rintro e w1 ⟨rfl, hbw1⟩; obtain ⟨hcw1, hfw1⟩ := bcell hbw1; have hzw1 := hbw1.size; (try simp [World.drew] at hzw1)
    go_wp2
    exact bodyPost_ret (v := ov 3 1 ⟨#[]⟩ 0) (by simp [results, Tryz.results28, go_sem, *]) rfl ⟨rfl, by repeat (first | exact Below.refl _ _ | assumption | (refine bel_trans ?_ (by assumption)) | (with_reducible apply bel_alloc) | (with_reducible apply Below.drew) | apply bel_alloc | apply Below.drew | refine bel_set ?_ (by simp; try omega) _)⟩
theorem r_IsError (e : Int) (w : World) : Ret 67 #[.int .i64 e] w (.bool (isErr e)) := by
  go_enter Tryz.func67, Tryz.ntmps67
  go_wp2
  all_goals (go_ret; exact ⟨ret_bool (by unfold isErr; simp [*]), by repeat (first | exact Below.refl _ _ | assumption | (refine bel_trans ?_ (by assumption)) | (with_reducible apply bel_alloc) | (with_reducible apply Below.drew) | apply bel_alloc | apply Below.drew | refine bel_set ?_ (by simp; try omega) _)⟩)
theorem r_Least (a b : Int) (w : World) : Ret 44 #[.int .i64 a, .int .i64 b] w (.int .i64 (lst a b)) := by
  go_enter Tryz.func44, Tryz.ntmps44
  go_wp2
  all_goals (go_ret; exact ⟨ret_int (by unfold lst; split <;> (simp_all; try omega)), by repeat (first | exact Below.refl _ _ | assumption | (refine bel_trans ?_ (by assumption)) | (with_reducible apply bel_alloc) | (with_reducible apply Below.drew) | apply bel_alloc | apply Below.drew | refine bel_set ?_ (by simp; try omega) _)⟩)
theorem r_Agree (a b : Int) (w : World) : Ret 30 #[.int .u8 a, .int .u8 b] w (.bool (agree a b)) := by
  go_enter Tryz.func30, Tryz.ntmps30
  go_wp2
  all_goals (go_ret; exact ⟨ret_bool (by first | rfl | simp [agree, *, Bool.or_assoc] | simp [agree, Bool.or_assoc]), by repeat (first | exact Below.refl _ _ | assumption | (refine bel_trans ?_ (by assumption)) | (with_reducible apply bel_alloc) | (with_reducible apply Below.drew) | apply bel_alloc | apply Below.drew | refine bel_set ?_ (by simp; try omega) _)⟩)
theorem r_isTrue (o : Ot) (w : World) : Ret 46 #[enc o] w (.bool (isT o)) := by
  go_enter Tryz.func46, Tryz.ntmps46
  go_wp2
  all_goals (go_ret; exact ⟨ret_bool (by unfold isT; simp_all), by repeat (first | exact Below.refl _ _ | assumption | (refine bel_trans ?_ (by assumption)) | (with_reducible apply bel_alloc) | (with_reducible apply Below.drew) | apply bel_alloc | apply Below.drew | refine bel_set ?_ (by simp; try omega) _)⟩)
theorem r_isNull (o : Ot) (w : World) : Ret 45 #[enc o] w (.bool (isN o)) := by
  go_enter Tryz.func45, Tryz.ntmps45
  go_wp2
  all_goals (go_ret; exact ⟨ret_bool (by unfold isN; simp_all), by repeat (first | exact Below.refl _ _ | assumption | (refine bel_trans ?_ (by assumption)) | (with_reducible apply bel_alloc) | (with_reducible apply Below.drew) | apply bel_alloc | apply Below.drew | refine bel_set ?_ (by simp; try omega) _)⟩)
theorem r_Same5 (a b : Ot) (w : World) : Ret 18 #[enc a, enc b] w (.bool (sameO a b)) := by
  have hs := fun w => r_Same a.k a.n a.s b.k b.n b.s w
  go_enter Tryz.func18, Tryz.ntmps18
  go_wp2_with (go_at_call 31; refine (hs _).mono ?_; rintro e w1 ⟨rfl, hbw1⟩; obtain ⟨hcw1, hfw1⟩ := bcell hbw1; have hzw1 := hbw1.size; (try simp [World.drew] at hzw1))
  all_goals (go_ret; exact ⟨ret_bool (by unfold sameO; simp [*]), by repeat (first | exact Below.refl _ _ | assumption | (refine bel_trans ?_ (by assumption)) | (with_reducible apply bel_alloc) | (with_reducible apply Below.drew) | apply bel_alloc | apply Below.drew | refine bel_set ?_ (by simp; try omega) _)⟩)
/-- A box of an out, and the world behind it. -/
abbrev box (W : World) (k n : Int) (s : ByteArray) (e : Int) : World := W.alloc (.cells #[.int .u8 k, .int .i64 n, .string s, .int .i64 e] 34)
end Go.Proofs.YtefelelhgepkeaaGreatDoor.K
