/- Contracts of Print, of package value and of the reference, at every value. -/
import Derived.Test.YtjiilfbomcibjaaGreatDoorRead
import Derived.LoopTactic
import Derived.Deep.LoopGhost
namespace Go.Proofs.YtjiilfbomcibjaaGreatDoor.V
open Go.ChangeShapes Go.WideShapes Go.ChangeAt Go.RowKit Go.Proofs.YtjiilfbomcibjaaGreatDoor.L
/-- The literal of a text. -/
def litT (s : ByteArray) : ByteArray := ⟨(39 :: (T.dbl s.data.toList ++ [39])).toArray⟩
theorem bytes_append (a b : ByteArray) : (a ++ b).data.toList = a.data.toList ++ b.data.toList := by rw [ByteArray.data_append, Array.toList_append]
theorem take_next (s : ByteArray) (k : Nat) (h : k < s.size) : s.data.toList.take (k + 1) = s.data.toList.take k ++ [s[k]] := by
  rw [List.take_succ_eq_append_getElem (by simpa using h)]; rfl
theorem bytes_one (s : ByteArray) (k : Nat) (h : k < s.size) : (s.extract k (k + 1)).data.toList = [s[k]] := by
  rw [ByteArray.data_extract, Array.toList_extract, List.extract_eq_take_drop, List.drop_eq_getElem_cons (by simpa using h)]
  simp
  rfl
theorem dbl_step1 (s : ByteArray) (k : Nat) (h : k < s.size) (b : ByteArray) (hB : b.data.toList = 39 :: T.dbl (s.data.toList.take k)) (hc : ¬ (s[k].toNat : Int) = 39) :
    (b ++ s.extract k (k + 1)).data.toList = 39 :: T.dbl (s.data.toList.take (k + 1)) := by
  rw [bytes_append, hB, bytes_one s k h, take_next s k h, T.dbl_snoc, if_neg (fun e => hc (by rw [e]; rfl))]
  rfl
theorem dbl_step2 (s : ByteArray) (k : Nat) (h : k < s.size) (b : ByteArray) (hB : b.data.toList = 39 :: T.dbl (s.data.toList.take k)) (hc : (s[k].toNat : Int) = 39) :
    (b ++ ⟨#[39]⟩ ++ s.extract k (k + 1)).data.toList = 39 :: T.dbl (s.data.toList.take (k + 1)) := by
  have e : s[k] = 39 := UInt8.toNat_inj.1 (by show s[k].toNat = 39; omega)
  rw [bytes_append, bytes_append, hB, bytes_one s k h, take_next s k h, T.dbl_snoc, if_pos e, e, List.cons_append, List.cons_append, List.append_assoc]
  rfl
theorem ret_lit (s b : ByteArray) (hB : b.data.toList = 39 :: T.dbl (s.data.toList.take s.size)) : Ending.returned (.string (b ++ ⟨#[39]⟩)) = .returned (.string (litT s)) := by
  rw [bytes_inj (show (b ++ ⟨#[39]⟩).data.toList = (litT s).data.toList by
    rw [bytes_append, hB, List.take_of_length_le (by simp)]
    rfl)]
theorem r_quoted (s : ByteArray) (hs : s.size ≤ 100) (w : World) : Calls Tryz.prog 51 #[.string s] w fun e w' => e = .returned (.string (litT s)) ∧ Below w.heap.size w w' := by
  go_enter Tryz.func51, Tryz.ntmps51
  go_wp2_with fail
  go_loopw [3, 4] (fun o i wr => ∃ (k : Nat) (b : ByteArray), k ≤ s.size ∧ o = .string b ∧ i = .int .i64 k ∧ wr = w ∧ b.data.toList = 39 :: T.dbl (s.data.toList.take k)) (fun _ i _ => s.size - (intOf i).toNat)
  case atStart => exact ⟨0, _, by omega, rfl, rfl, rfl, rfl⟩
  case round =>
    obtain ⟨k, b, hk, rfl, rfl, rfl, hB⟩ := hrel
    have hlen : b.size ≤ 2 * k + 1 := by
      have h1 := congrArg List.length hB
      have h2 := T.dbl_length (s.data.toList.take k)
      rw [List.length_take] at h2
      have h3 : b.data.toList.length = b.size := by simp
      simp only [List.length_cons] at h1
      omega
    have HB := Lib.hid hB
    clear hB
    by_cases hk' : k < s.size
    · by_cases hc : (s[k].toNat : Int) = 39
      · go_wp2
        go_roundw
        case rel => exact ⟨k + 1, _, by omega, rfl, by go_num, (by first | trivial | rfl), dbl_step2 s k hk' b HB.out hc⟩
        case measure => simp [intOf]; omega
      · go_wp2
        go_roundw
        case rel => exact ⟨k + 1, _, by omega, rfl, by go_num, (by first | trivial | rfl), dbl_step1 s k hk' b HB.out hc⟩
        case measure => simp [intOf]; omega
    · obtain rfl : k = s.size := by omega
      go_wp2
      go_ret
      exact ⟨ret_lit s b HB.out, Below.refl _ _⟩
theorem print_bad (k n : Int) (s : ByteArray) (hv : ∀ w, Calls Tryz.prog 15 #[val k n s] w fun e w' => e = .returned (.bool false) ∧ Below w.heap.size w w') (w : World) :
    Calls Tryz.prog 33 #[val k n s] w fun e w' => e = .returned (.tuple #[.string ⟨#[]⟩, .int .i64 1]) ∧ Below w.heap.size w w' := by
  have H := Lib.hid hv
  clear hv
  go_enter Tryz.func33, Tryz.ntmps33
  go_wp2_with fail
  refine (H.out _).mono ?_
  rintro e w1 ⟨rfl, hb1⟩; obtain ⟨hc, hf⟩ := bcell hb1; have z1 : w.heap.size < w1.heap.size := Nat.lt_of_lt_of_le (by simp) hb1.size
  go_wp2
  go_ret2
  exact ⟨rfl, by repeat (first | exact Below.refl _ _ | (refine bel_trans ?_ (by assumption)) | apply bel_alloc | apply Below.drew | refine bel_set ?_ (by simp) _)⟩
theorem rprint_bad (k n : Int) (s : ByteArray) (hv : ∀ w, Calls Tryz.prog 49 #[val k n s] w fun e w' => e = .returned (.bool false) ∧ Below w.heap.size w w') (w : World) :
    Calls Tryz.prog 32 #[val k n s] w fun e w' => e = .returned (.tuple #[.string ⟨#[]⟩, .int .i64 1]) ∧ Below w.heap.size w w' := by
  have H := Lib.hid hv
  clear hv
  go_enter Tryz.func32, Tryz.ntmps32
  go_wp2_with fail
  refine (H.out _).mono ?_
  rintro e w1 ⟨rfl, hb1⟩; obtain ⟨hc, hf⟩ := bcell hb1; have z1 : w.heap.size < w1.heap.size := Nat.lt_of_lt_of_le (by simp) hb1.size
  go_wp2
  go_ret2
  exact ⟨rfl, by repeat (first | exact Below.refl _ _ | (refine bel_trans ?_ (by assumption)) | apply bel_alloc | apply Below.drew | refine bel_set ?_ (by simp) _)⟩
theorem valid_is (k n : Int) (s : ByteArray) (b : Bool) (h : valid k n s = b) (w : World) : Calls Tryz.prog 15 #[val k n s] w fun e w' => e = .returned (.bool b) ∧ Below w.heap.size w w' := h ▸ c_Valid k n s w
theorem rvalid_is (k n : Int) (s : ByteArray) (b : Bool) (h : valid k n s = b) (w : World) : Calls Tryz.prog 49 #[val k n s] w fun e w' => e = .returned (.bool b) ∧ Below w.heap.size w w' := h ▸ r_Valid k n s w
theorem print_text (s d : ByteArray) (hs : s.size ≤ 100) (hd : d.size ≤ 200) (hr : ∀ w, Env w → Calls Tryz.prog 52 #[.string s, .string ⟨#[39]⟩, .string ⟨#[39, 39]⟩] w fun e w' => e = .returned (.string d) ∧ Below w.heap.size w w') (w : World) (E : Env w) :
    Calls Tryz.prog 33 #[val 2 0 s] w fun e w' => e = .returned (.tuple #[.string (⟨#[39]⟩ ++ d ++ ⟨#[39]⟩), .int .i64 0]) ∧ Below w.heap.size w w' := by
  have H := Lib.hid (valid_is 2 0 s true (by simp [valid, hs]))
  have H2 := Lib.hid hr
  clear hr
  go_enter Tryz.func33, Tryz.ntmps33
  go_wp2_with fail
  refine (H.out _).mono ?_
  rintro e w1 ⟨rfl, hb1⟩; have E1 := (E.alloc _).below hb1; obtain ⟨hc, hf⟩ := bcell hb1; have z1 : w.heap.size < w1.heap.size := Nat.lt_of_lt_of_le (by simp) hb1.size
  go_wp2_with fail
  refine (H2.out _ E1).mono ?_
  rintro e w2 ⟨rfl, hb2⟩; obtain ⟨hc, hf⟩ := bcell hb2; have z2 : w.heap.size < w2.heap.size := Nat.lt_of_lt_of_le z1 hb2.size
  go_wp2
  go_ret2
  exact ⟨rfl, by repeat (first | exact Below.refl _ _ | (refine bel_trans ?_ (by assumption)) | apply bel_alloc | apply Below.drew | refine bel_set ?_ (by simp) _)⟩
theorem rprint_text (s : ByteArray) (hs : s.size ≤ 100) (w : World) :
    Calls Tryz.prog 32 #[val 2 0 s] w fun e w' => e = .returned (.tuple #[.string (litT s), .int .i64 0]) ∧ Below w.heap.size w w' := by
  have H := Lib.hid (rvalid_is 2 0 s true (by simp [valid, hs]))
  have H2 := Lib.hid (r_quoted s hs)
  clear hs
  go_enter Tryz.func32, Tryz.ntmps32
  go_wp2_with fail
  refine (H.out _).mono ?_
  rintro e w1 ⟨rfl, hb1⟩; obtain ⟨hc, hf⟩ := bcell hb1; have z1 : w.heap.size < w1.heap.size := Nat.lt_of_lt_of_le (by simp) hb1.size
  go_wp2_with fail
  refine (H2.out _).mono ?_
  rintro e w2 ⟨rfl, hb2⟩; obtain ⟨hc, hf⟩ := bcell hb2; have z2 : w.heap.size < w2.heap.size := Nat.lt_of_lt_of_le z1 hb2.size
  go_wp2
  go_ret2
  exact ⟨rfl, by repeat (first | exact Below.refl _ _ | (refine bel_trans ?_ (by assumption)) | apply bel_alloc | apply Below.drew | refine bel_set ?_ (by simp) _)⟩
theorem rprint_int (n : Int) (h : Fits n) (w : World) (E : Env w) : Calls Tryz.prog 32 #[val 1 n ⟨#[]⟩] w fun e w' => e = .returned (.tuple #[.string ⟨(Lib.itoa n).toArray⟩, .int .i64 0]) ∧ Below w.heap.size w w' := by
  have H := Lib.hid h
  have HV := Lib.hid (rvalid_is 1 n ⟨#[]⟩ true (by simp [valid]))
  clear h
  go_enter Tryz.func32, Tryz.ntmps32
  go_wp2_with fail
  refine (HV.out _).mono ?_
  rintro e w1 ⟨rfl, hb1⟩; have E1 := (E.alloc _).below hb1; obtain ⟨hc, hf⟩ := bcell hb1; have z1 : w.heap.size < w1.heap.size := Nat.lt_of_lt_of_le (by simp) hb1.size
  go_wp2_with fail
  refine (l_Format _ H.out _ E1).mono ?_
  rintro e w2 ⟨rfl, hb2⟩; obtain ⟨hc, hf⟩ := bcell hb2; have z2 : w.heap.size < w2.heap.size := Nat.lt_of_lt_of_le z1 hb2.size
  go_wp2
  go_ret2
  exact ⟨rfl, by repeat (first | exact Below.refl _ _ | (refine bel_trans ?_ (by assumption)) | apply bel_alloc | apply Below.drew | refine bel_set ?_ (by simp) _)⟩
theorem print_null (w : World) : Calls Tryz.prog 33 #[val 0 0 ⟨#[]⟩] w fun e w' => e = .returned (.tuple #[.string ⟨#[78, 85, 76, 76]⟩, .int .i64 0]) ∧ Below w.heap.size w w' := by
  have H := Lib.hid (valid_is 0 0 ⟨#[]⟩ true (by decide +kernel))
  go_enter Tryz.func33, Tryz.ntmps33
  go_wp2_with fail
  refine (H.out _).mono ?_
  rintro e w1 ⟨rfl, hb1⟩; obtain ⟨hc, hf⟩ := bcell hb1; have z1 : w.heap.size < w1.heap.size := Nat.lt_of_lt_of_le (by simp) hb1.size
  go_wp2_with fail
  refine (c_Bool_t _).mono ?_
  rintro e w2 ⟨rfl, hb2⟩; obtain ⟨hc, hf⟩ := bcell hb2; have z2 : w.heap.size < w2.heap.size := Nat.lt_of_lt_of_le z1 hb2.size
  go_wp2_with fail
  refine (c_Bool_f _).mono ?_
  rintro e w3 ⟨rfl, hb3⟩; obtain ⟨hc, hf⟩ := bcell hb3; have z3 : w.heap.size < w3.heap.size := Nat.lt_of_lt_of_le z2 hb3.size
  go_wp2
  go_ret2
  exact ⟨rfl, by repeat (first | exact Below.refl _ _ | (refine bel_trans ?_ (by assumption)) | apply bel_alloc | apply Below.drew | refine bel_set ?_ (by simp) _)⟩
theorem rprint_null (w : World) : Calls Tryz.prog 32 #[val 0 0 ⟨#[]⟩] w fun e w' => e = .returned (.tuple #[.string ⟨#[78, 85, 76, 76]⟩, .int .i64 0]) ∧ Below w.heap.size w w' := by
  have H := Lib.hid (rvalid_is 0 0 ⟨#[]⟩ true (by decide +kernel))
  go_enter Tryz.func32, Tryz.ntmps32
  go_wp2_with fail
  refine (H.out _).mono ?_
  rintro e w1 ⟨rfl, hb1⟩; obtain ⟨hc, hf⟩ := bcell hb1; have z1 : w.heap.size < w1.heap.size := Nat.lt_of_lt_of_le (by simp) hb1.size
  go_wp2
  go_ret2
  exact ⟨rfl, by repeat (first | exact Below.refl _ _ | (refine bel_trans ?_ (by assumption)) | apply bel_alloc | apply Below.drew | refine bel_set ?_ (by simp) _)⟩
theorem print_true (w : World) : Calls Tryz.prog 33 #[val 3 1 ⟨#[]⟩] w fun e w' => e = .returned (.tuple #[.string ⟨#[84, 82, 85, 69]⟩, .int .i64 0]) ∧ Below w.heap.size w w' := by
  have H := Lib.hid (valid_is 3 1 ⟨#[]⟩ true (by decide +kernel))
  go_enter Tryz.func33, Tryz.ntmps33
  go_wp2_with fail
  refine (H.out _).mono ?_
  rintro e w1 ⟨rfl, hb1⟩; obtain ⟨hc, hf⟩ := bcell hb1; have z1 : w.heap.size < w1.heap.size := Nat.lt_of_lt_of_le (by simp) hb1.size
  go_wp2_with fail
  refine (c_Bool_t _).mono ?_
  rintro e w2 ⟨rfl, hb2⟩; obtain ⟨hc, hf⟩ := bcell hb2; have z2 : w.heap.size < w2.heap.size := Nat.lt_of_lt_of_le z1 hb2.size
  go_wp2
  go_ret2
  exact ⟨rfl, by repeat (first | exact Below.refl _ _ | (refine bel_trans ?_ (by assumption)) | apply bel_alloc | apply Below.drew | refine bel_set ?_ (by simp) _)⟩
theorem rprint_true (w : World) : Calls Tryz.prog 32 #[val 3 1 ⟨#[]⟩] w fun e w' => e = .returned (.tuple #[.string ⟨#[84, 82, 85, 69]⟩, .int .i64 0]) ∧ Below w.heap.size w w' := by
  have H := Lib.hid (rvalid_is 3 1 ⟨#[]⟩ true (by decide +kernel))
  go_enter Tryz.func32, Tryz.ntmps32
  go_wp2_with fail
  refine (H.out _).mono ?_
  rintro e w1 ⟨rfl, hb1⟩; obtain ⟨hc, hf⟩ := bcell hb1; have z1 : w.heap.size < w1.heap.size := Nat.lt_of_lt_of_le (by simp) hb1.size
  go_wp2
  go_ret2
  exact ⟨rfl, by repeat (first | exact Below.refl _ _ | (refine bel_trans ?_ (by assumption)) | apply bel_alloc | apply Below.drew | refine bel_set ?_ (by simp) _)⟩
theorem print_false (w : World) : Calls Tryz.prog 33 #[val 3 0 ⟨#[]⟩] w fun e w' => e = .returned (.tuple #[.string ⟨#[70, 65, 76, 83, 69]⟩, .int .i64 0]) ∧ Below w.heap.size w w' := by
  have H := Lib.hid (valid_is 3 0 ⟨#[]⟩ true (by decide +kernel))
  go_enter Tryz.func33, Tryz.ntmps33
  go_wp2_with fail
  refine (H.out _).mono ?_
  rintro e w1 ⟨rfl, hb1⟩; obtain ⟨hc, hf⟩ := bcell hb1; have z1 : w.heap.size < w1.heap.size := Nat.lt_of_lt_of_le (by simp) hb1.size
  go_wp2_with fail
  refine (c_Bool_t _).mono ?_
  rintro e w2 ⟨rfl, hb2⟩; obtain ⟨hc, hf⟩ := bcell hb2; have z2 : w.heap.size < w2.heap.size := Nat.lt_of_lt_of_le z1 hb2.size
  go_wp2_with fail
  refine (c_Bool_f _).mono ?_
  rintro e w3 ⟨rfl, hb3⟩; obtain ⟨hc, hf⟩ := bcell hb3; have z3 : w.heap.size < w3.heap.size := Nat.lt_of_lt_of_le z2 hb3.size
  go_wp2
  go_ret2
  exact ⟨rfl, by repeat (first | exact Below.refl _ _ | (refine bel_trans ?_ (by assumption)) | apply bel_alloc | apply Below.drew | refine bel_set ?_ (by simp) _)⟩
theorem rprint_false (w : World) : Calls Tryz.prog 32 #[val 3 0 ⟨#[]⟩] w fun e w' => e = .returned (.tuple #[.string ⟨#[70, 65, 76, 83, 69]⟩, .int .i64 0]) ∧ Below w.heap.size w w' := by
  have H := Lib.hid (rvalid_is 3 0 ⟨#[]⟩ true (by decide +kernel))
  go_enter Tryz.func32, Tryz.ntmps32
  go_wp2_with fail
  refine (H.out _).mono ?_
  rintro e w1 ⟨rfl, hb1⟩; obtain ⟨hc, hf⟩ := bcell hb1; have z1 : w.heap.size < w1.heap.size := Nat.lt_of_lt_of_le (by simp) hb1.size
  go_wp2
  go_ret2
  exact ⟨rfl, by repeat (first | exact Below.refl _ _ | (refine bel_trans ?_ (by assumption)) | apply bel_alloc | apply Below.drew | refine bel_set ?_ (by simp) _)⟩
end Go.Proofs.YtjiilfbomcibjaaGreatDoor.V
