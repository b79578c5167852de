/- Contracts of the functions of package value that read literals of texts. -/
import Derived.Test.YtjiilfbomcibjaaGreatDoorCmp
import Derived.Test.YtjiilfbomcibjaaGreatDoorEnv
import Derived.Deep.DeepCutAuto
import Derived.Test.YtjiilfbomcibjaaGreatDoorMat
namespace Go.Proofs.YtjiilfbomcibjaaGreatDoor.V
open Go.ChangeShapes Go.WideShapes Go.ChangeAt Go.RowKit Go.Proofs.YtjiilfbomcibjaaGreatDoor.L
theorem below_grow (w : World) (k : Nat) (os : Array Obj) : Below w.heap.size w (Sort.grow (w.drewN k) os) :=
  ⟨rfl, rfl, rfl, by simp [Sort.grow], fun j hj => by simp [Sort.grow, Array.getElem?_append_left hj]⟩
theorem l_Trim (s : ByteArray) (hs : s.size ≤ 9223372036854775807) (w : World) :
    Calls Tryz.prog 73 #[.string s, .string ⟨#[48, 49, 50, 51, 52, 53, 54, 55, 56, 57]⟩] w fun e w' => e = .returned (.string ⟨(Lib.trimS s.data.toList [48, 49, 50, 51, 52, 53, 54, 55, 56, 57]).toArray⟩) ∧ Below w.heap.size w w' :=
  Any.strings_Trim_laid Tryz.lays160 (by kernel_rfl) s ⟨#[48, 49, 50, 51, 52, 53, 54, 55, 56, 57]⟩ w hs (by decide) (ascii_of_all (by decide))
theorem l_CutPrefix (s p : ByteArray) (w : World) : Calls Tryz.prog 72 #[.string s, .string p] w fun e w' => e = .returned (.tuple #[.string ⟨(Lib.trimPrefix s.data.toList p.data.toList).toArray⟩, .bool (Lib.hasPrefix s.data.toList p.data.toList)]) ∧ w = w' :=
  (Tryz.strings_CutPrefix s p w).mono fun _ _ ⟨he, hw⟩ => ⟨he, hw.symm⟩
theorem l_CutSuffix (s p : ByteArray) (w : World) (hs : s.size ≤ 9223372036854775807) : Calls Tryz.prog 75 #[.string s, .string p] w fun e w' => e = .returned (.tuple #[.string ⟨(Lib.trimSuffix s.data.toList p.data.toList).toArray⟩, .bool (Lib.hasSuffix s.data.toList p.data.toList)]) ∧ w = w' :=
  (Tryz.strings_CutSuffix s p w hs).mono fun _ _ ⟨he, hw⟩ => ⟨he, hw.symm⟩
theorem l_ReplaceAll (s old new : ByteArray) (w : World) (E : Env w) (hs : s.size < 4294967281) (h1 : 1 ≤ old.size) (hlen : s.size + Lib.countB s old * new.size ≤ 140737488355328) :
    Calls Tryz.prog 52 #[.string s, .string old, .string new] w fun e w' => e = .returned (.string ⟨(Lib.replaceAll s.data.toList old.data.toList new.data.toList).toArray⟩) ∧ Below w.heap.size w w' := by
  obtain ⟨m, hm⟩ := E.most
  exact Tryz.strings_ReplaceAll s old new m w hs hm h1 hlen
theorem l_Contains (s : ByteArray) (c : UInt8) (w : World) : Calls Tryz.prog 76 #[.string s, .string ⟨#[c]⟩] w fun e w' => e = .returned (.bool (decide (0 ≤ Lib.indexByte s.data.toList c))) ∧ w = w' :=
  (Tryz.strings_Contains_one s c w).mono fun _ _ ⟨he, hw⟩ => ⟨he, hw.symm⟩
/-! ### The document's own example, 'it''s' -/
theorem k_cut (w : World) : Calls Tryz.prog 72 #[.string ⟨#[39, 105, 116, 39, 39, 115, 39]⟩, .string ⟨#[45]⟩] w fun e w' => e = .returned (.tuple #[.string ⟨#[39, 105, 116, 39, 39, 115, 39]⟩, .bool false]) ∧ w = w' :=
  (l_CutPrefix _ _ w).mono fun _ _ ⟨he, hw⟩ => ⟨he.trans rfl, hw⟩
theorem k_trim (w : World) : Calls Tryz.prog 73 #[.string ⟨#[39, 105, 116, 39, 39, 115, 39]⟩, .string ⟨#[48, 49, 50, 51, 52, 53, 54, 55, 56, 57]⟩] w fun e w' => e = .returned (.string ⟨#[39, 105, 116, 39, 39, 115, 39]⟩) ∧ Below w.heap.size w w' :=
  (l_Trim _ (by decide) w).mono fun _ _ ⟨he, hw⟩ => ⟨he.trans rfl, hw⟩
theorem k_cut2 (w : World) : Calls Tryz.prog 72 #[.string ⟨#[39, 105, 116, 39, 39, 115, 39]⟩, .string ⟨#[39]⟩] w fun e w' => e = .returned (.tuple #[.string ⟨#[105, 116, 39, 39, 115, 39]⟩, .bool true]) ∧ w = w' :=
  (l_CutPrefix _ _ w).mono fun _ _ ⟨he, hw⟩ => ⟨he.trans rfl, hw⟩
theorem k_cut3 (w : World) : Calls Tryz.prog 75 #[.string ⟨#[105, 116, 39, 39, 115, 39]⟩, .string ⟨#[39]⟩] w fun e w' => e = .returned (.tuple #[.string ⟨#[105, 116, 39, 39, 115]⟩, .bool true]) ∧ w = w' :=
  (l_CutSuffix _ _ w (by decide)).mono fun _ _ ⟨he, hw⟩ => ⟨he.trans rfl, hw⟩
theorem k_rep1 (w : World) (E : Env w) : Calls Tryz.prog 52 #[.string ⟨#[105, 116, 39, 39, 115]⟩, .string ⟨#[39, 39]⟩, .string ⟨#[]⟩] w fun e w' => e = .returned (.string ⟨#[105, 116, 115]⟩) ∧ Below w.heap.size w w' :=
  (l_ReplaceAll _ _ _ w E (by decide) (by decide) (by decide)).mono fun _ _ ⟨he, hw⟩ => ⟨he.trans rfl, hw⟩
theorem k_rep2 (w : World) (E : Env w) : Calls Tryz.prog 52 #[.string ⟨#[105, 116, 39, 39, 115]⟩, .string ⟨#[39, 39]⟩, .string ⟨#[39]⟩] w fun e w' => e = .returned (.string ⟨#[105, 116, 39, 115]⟩) ∧ Below w.heap.size w w' :=
  (l_ReplaceAll _ _ _ w E (by decide) (by decide) (by decide)).mono fun _ _ ⟨he, hw⟩ => ⟨he.trans rfl, hw⟩
theorem k_con (w : World) : Calls Tryz.prog 76 #[.string ⟨#[105, 116, 115]⟩, .string ⟨#[39]⟩] w fun e w' => e = .returned (.bool false) ∧ w = w' :=
  (l_Contains _ _ w).mono fun _ _ ⟨he, hw⟩ => ⟨he.trans rfl, hw⟩
theorem k_text (w : World) : Calls Tryz.prog 56 #[.string ⟨#[105, 116, 39, 115]⟩] w fun e w' => e = .returned (.tuple #[val 2 0 ⟨#[105, 116, 39, 115]⟩, .int .i64 0]) ∧ Below w.heap.size w w' :=
  (c_Text _ w).mono fun _ _ ⟨he, hw⟩ => ⟨he.trans rfl, hw⟩
theorem k_isInt (w : World) : Calls Tryz.prog 53 #[.string ⟨#[39, 105, 116, 39, 39, 115, 39]⟩] w fun e w' => e = .returned (.bool false) ∧ Below w.heap.size w w' := by
  go_enter Tryz.func53, Tryz.ntmps53
  go_wp2_with (first | (go_at_call 72; refine (k_cut _).mono ?_; rintro e w' ⟨rfl, rfl⟩) | (go_at_call 73; refine (k_trim _).mono ?_; rintro e w' ⟨rfl, hb⟩))
  go_ret
  exact ⟨rfl, by repeat (first | exact Below.refl _ _ | (refine bel_trans ?_ (by assumption)) | apply bel_alloc | apply Below.drew)⟩
theorem k_quoted (w : World) (E : Env w) : Calls Tryz.prog 55 #[.string ⟨#[39, 105, 116, 39, 39, 115, 39]⟩] w fun e w' => e = .returned (.tuple #[.string ⟨#[105, 116, 39, 39, 115]⟩, .bool true]) ∧ Below w.heap.size w w' := by
  go_enter Tryz.func55, Tryz.ntmps55
  go_wp2_with (first | (go_at_call 72; refine (k_cut2 _).mono ?_; rintro e w' ⟨rfl, rfl⟩) | (go_at_call 75; refine (k_cut3 _).mono ?_; rintro e w' ⟨rfl, rfl⟩) | (go_at_call 52; refine (k_rep1 _ E).mono ?_; rintro e w' ⟨rfl, hb⟩) | (go_at_call 76; refine (k_con _).mono ?_; rintro e w' ⟨rfl, rfl⟩))
  go_ret2
  exact ⟨rfl, by repeat (first | exact Below.refl _ _ | (refine bel_trans ?_ (by assumption)) | apply bel_alloc | apply Below.drew)⟩
theorem k_read (w : World) (E : Env w) : Calls Tryz.prog 34 #[.string ⟨#[39, 105, 116, 39, 39, 115, 39]⟩] w fun e w' => e = .returned (.tuple #[val 2 0 ⟨#[105, 116, 39, 115]⟩, .int .i64 0]) ∧ Below w.heap.size w w' := by
  go_enter Tryz.func34, Tryz.ntmps34
  go_wp2_with fail
  refine (k_isInt _).mono ?_
  rintro e w1 ⟨rfl, hb1⟩; have E1 := (E.alloc _).below hb1; obtain ⟨hc, hf⟩ := bcell hb1; have z1 : w.heap.size < w1.heap.size := Nat.lt_of_lt_of_le (by simp) hb1.size
  go_wp2_with fail
  refine (k_quoted _ E1).mono ?_
  rintro e w2 ⟨rfl, hb2⟩; have E2 := E1.below hb2; obtain ⟨hc, hf⟩ := bcell hb2; have z2 : w.heap.size < w2.heap.size := Nat.lt_of_lt_of_le z1 hb2.size
  go_wp2_with fail
  refine (k_rep2 _ E2).mono ?_
  rintro e w3 ⟨rfl, hb3⟩; obtain ⟨hc, hf⟩ := bcell hb3; have z3 : w.heap.size < w3.heap.size := Nat.lt_of_lt_of_le z2 hb3.size
  go_wp2_with fail
  refine (k_text _).mono ?_
  rintro e w4 ⟨rfl, hb4⟩; obtain ⟨hc, hf⟩ := bcell hb4; have z4 : w.heap.size < w4.heap.size := Nat.lt_of_lt_of_le z3 hb4.size
  go_wp2
  have q (o : Nat) (v : Value) (h : (w.alloc (Obj.cells #[Value.int IntKind.u8 0, Value.int IntKind.i64 0, Value.string { data := #[] }] 24)).cell? ⟨w.heap.size, o, none⟩ = some v) : w4.cell? ⟨w.heap.size, o, none⟩ = some v :=
    cell_below hb4 (cell_below hb3 (cell_below hb2 (cell_below hb1 h)))
  have q0 := q 0 _ (by simp [go_sem]; rfl)
  have q1 := q 1 _ (by simp [go_sem]; rfl)
  have q2 := q 2 _ (by simp [go_sem]; rfl)
  exact bodyPost_ret (v := .tuple #[val 2 0 ⟨#[105, 116, 39, 115]⟩, .int .i64 0]) (by simp [results, Tryz.results34, go_sem, q0, q1, q2]) rfl ⟨rfl, by repeat (first | exact Below.refl _ _ | (refine bel_trans ?_ (by assumption)) | apply bel_alloc | apply Below.drew | refine bel_set ?_ (by simp) _)⟩
/-! ### The literal of an integer -/
theorem l_Format (n : Int) (h : Fits n) (w : World) (E : Env w) : Calls Tryz.prog 50 #[.int .i64 n, .int .i64 10] w fun e w' => e = .returned (.string ⟨(Lib.itoa n).toArray⟩) ∧ Below w.heap.size w w' :=
  (Tryz.strconv_FormatInt_10 n h.1 h.2 w E.tab).mono fun _ _ ⟨he, k, os, hw⟩ => ⟨he, hw ▸ below_grow w k os⟩
theorem valid_int (n : Int) (w : World) : Calls Tryz.prog 15 #[val 1 n ⟨#[]⟩] w fun e w' => e = .returned (.bool true) ∧ Below w.heap.size w w' := by
  have h := c_Valid 1 n ⟨#[]⟩ w
  rwa [show valid 1 n ⟨#[]⟩ = true by simp [valid]] at h
theorem p_int (n : Int) (h : Fits n) (w : World) (E : Env w) : Calls Tryz.prog 33 #[val 1 n ⟨#[]⟩] w fun e w' => e = .returned (.tuple #[.string ⟨(Lib.itoa n).toArray⟩, .int .i64 0]) ∧ Below w.heap.size w w' := by
  have H := Lib.hid h
  clear h
  go_enter Tryz.func33, Tryz.ntmps33
  go_wp2_with fail
  refine (valid_int _ _).mono ?_
  rintro e w1 ⟨rfl, hb1⟩; have E1 := (E.alloc _).below hb1; obtain ⟨hc, hf⟩ := bcell hb1; have z1 : w.heap.size < w1.heap.size := Nat.lt_of_lt_of_le (by simp) hb1.size
  go_wp2_with fail
  refine (l_Format _ H.out _ E1).mono ?_
  rintro e w2 ⟨rfl, hb2⟩; obtain ⟨hc, hf⟩ := bcell hb2; have z2 : w.heap.size < w2.heap.size := Nat.lt_of_lt_of_le z1 hb2.size
  go_wp2
  go_ret2
  exact ⟨rfl, by repeat (first | exact Below.refl _ _ | (refine bel_trans ?_ (by assumption)) | apply bel_alloc | apply Below.drew | refine bel_set ?_ (by simp) _)⟩
/-! ### Matches -/
theorem l_TrimLeft (s : ByteArray) (w : World) : Calls Tryz.prog 48 #[.string s, .string ⟨#[37]⟩] w fun e w' => e = .returned (.string ⟨(Lib.trimLeftB s.data.toList 37).toArray⟩) ∧ w = w' :=
  (Tryz.strings_TrimLeft_one s 37 (by decide) w).mono fun _ _ ⟨he, hw⟩ => ⟨he, hw.symm⟩
/-- The text matches the pattern. -/
def matchB (s p : ByteArray) : Bool := M.mt s.data.toList p.data.toList
theorem trim_all (l : List UInt8) : (Lib.trimLeftB l 37).isEmpty = l.all (· == 37) := by
  unfold Lib.trimLeftB
  induction l with
  | nil => rfl
  | cons d l ih =>
    rw [List.dropWhile_cons, List.all_cons]
    by_cases h : d = 37 <;> simp [h, ih]
theorem ms_1 (N : Nat) {A A' x x' y y' : Nat} (h : A' + 1 ≤ A) (hx : x' ≤ N) (hy : y' ≤ N) : A' * ((N + 1) * (N + 1)) + x' * (N + 1) + y' < A * ((N + 1) * (N + 1)) + x * (N + 1) + y := by
  have h1 := Nat.mul_le_mul_right ((N + 1) * (N + 1)) h
  have h2 := Nat.mul_le_mul_right (N + 1) hx
  have h3 : (N + 1) * (N + 1) = N * (N + 1) + (N + 1) := by rw [Nat.add_mul, Nat.one_mul]
  rw [Nat.add_mul, Nat.one_mul] at h1
  omega
theorem ms_2 (N : Nat) {A x x' y y' : Nat} (h : x' + 1 ≤ x) (hy : y' ≤ N) : A * ((N + 1) * (N + 1)) + x' * (N + 1) + y' < A * ((N + 1) * (N + 1)) + x * (N + 1) + y := by
  have h1 := Nat.mul_le_mul_right (N + 1) h
  rw [Nat.add_mul, Nat.one_mul] at h1
  omega
theorem ms_3 (N : Nat) {A x y y' : Nat} (h : y' < y) : A * ((N + 1) * (N + 1)) + x * (N + 1) + y' < A * ((N + 1) * (N + 1)) + x * (N + 1) + y := by omega
set_option maxHeartbeats 1600000 in
theorem c_Matches (s p : ByteArray) (hs : s.size ≤ maxLen) (hp : p.size ≤ maxLen) (w : World) : Calls Tryz.prog 31 #[.string s, .string p] w fun e w' => e = .returned (.bool (matchB s p)) ∧ Below w.heap.size w w' := by
  unfold maxLen at hs hp
  go_enter Tryz.func31, Tryz.ntmps31
  go_wp2
  go_loopw [5, 6, 7, 8] (fun x5 x6 x7 x8 wr => ∃ (at' place piece n : Nat) (after : Int), x5 = .int .i64 at' ∧ x6 = .int .i64 place ∧ x7 = .int .i64 after ∧ x8 = .int .i64 piece ∧ wr = w.drewN n ∧ at' ≤ s.size ∧ place ≤ p.size ∧ piece ≤ at' ∧ after ≤ place ∧ -1 ≤ after ∧ M.Inv s.data.toList p.data.toList at' place after piece)
    (fun x5 _ x7 x8 _ => (p.size + 1 - (intOf x7 + 1).toNat) * ((s.size + 1) * (s.size + 1)) + (s.size - (intOf x8).toNat) * (s.size + 1) + (s.size - (intOf x5).toNat))
  case atStart => exact ⟨0, 0, 0, 0, -1, rfl, rfl, rfl, rfl, rfl, by omega, by omega, by omega, by omega, by omega, M.inv_start _ _⟩
  case round =>
    obtain ⟨at', place, piece, n, after, rfl, rfl, rfl, rfl, rfl, h1, h2, h3, h4, h5, hI⟩ := hrel
    by_cases ha : at' < s.size
    · have hT := drop_cons s at' ha
      by_cases hpl : place < p.size
      · have hP := drop_cons p place hpl
        by_cases h37 : p[place] = 37
        · have HI := Lib.hid (M.inv_star hI (hP.trans (by rw [h37])))
          clear hI hT hP
          go_wp2
          go_roundw
          case rel => exact ⟨at', place + 1, at', n, (place : Int) + 1, rfl, by go_num, rfl, rfl, rfl, by omega, by omega, by omega, by omega, by omega, HI.out⟩
          case measure => simp only [intOf]; exact ms_1 _ (by omega) (by omega) (by omega)
        · have g1 : ((p[place].toNat : Int) == 37) = false := by simp; intro h; exact h37 (UInt8.toNat_inj.1 (show p[place].toNat = 37 by omega))
          by_cases h95 : p[place] = 95
          · have HI := Lib.hid (M.inv_char hI hT hP h37 (.inl h95))
            clear hI hT hP h37
            go_wp2
            go_quiet (fail)
            go_wp2
            go_roundw
            case rel => exact ⟨at' + 1, place + 1, piece, _, after, by go_num, by go_num, rfl, rfl, rfl, by omega, by omega, by omega, by omega, by omega, HI.out⟩
            case measure => simp only [intOf]; exact ms_3 _ (by omega)
          · have g2 : ((p[place].toNat : Int) == 95) = false := by simp; intro h; exact h95 (UInt8.toNat_inj.1 (show p[place].toNat = 95 by omega))
            by_cases hc : p[place] = s[at']
            · have HI := Lib.hid (M.inv_char hI hT hP h37 (.inr hc))
              have g3 : ((p[place].toNat : Int) == (s[at'].toNat : Int)) = true := by rw [hc]; simp
              clear hI hT hP h37 h95 hc
              go_wp2
              go_quiet (fail)
              go_wp2
              go_roundw
              case rel => exact ⟨at' + 1, place + 1, piece, _, after, by go_num, by go_num, rfl, rfl, rfl, by omega, by omega, by omega, by omega, by omega, HI.out⟩
              case measure => simp only [intOf]; exact ms_3 _ (by omega)
            · have g3 : ((p[place].toNat : Int) == (s[at'].toNat : Int)) = false := by simp; intro h; exact hc (UInt8.toNat_inj.1 (by omega))
              have hM := M.miss_char hT hP h37 h95 hc
              by_cases h0 : 0 ≤ after
              · have HI := Lib.hid (M.inv_back hI (by simpa using ha) hM h0)
                clear hI hT hP h37 h95 hc hM
                go_wp2
                go_quiet (fail)
                go_wp2
                go_roundw
                case rel => exact ⟨piece + 1, after.toNat, piece + 1, _, after, by go_num, by congr; omega, rfl, by go_num, rfl, by omega, by omega, by omega, by omega, by omega, HI.out⟩
                case measure => simp only [intOf]; exact ms_2 _ (by omega) (by omega)
              · have HF := Lib.hid (M.inv_fail hI hM (by omega))
                clear hI hT hP h37 h95 hc hM
                go_wp2
                go_quiet (fail)
                go_wp2
                go_ret
                exact ⟨ret_bool HF.out.symm, below_drewN _ _⟩
      · have hM := M.miss_end (T := s.data.toList) (P := p.data.toList) (at' := at') (place := place) (by simpa using ha) (by simpa using hpl)
        by_cases h0 : 0 ≤ after
        · have HI := Lib.hid (M.inv_back hI (by simpa using ha) hM h0)
          clear hI hT hM
          go_wp2
          go_quiet (fail)
          go_wp2
          go_roundw
          case rel => exact ⟨piece + 1, after.toNat, piece + 1, _, after, by go_num, by congr; omega, rfl, by go_num, rfl, by omega, by omega, by omega, by omega, by omega, HI.out⟩
          case measure => simp only [intOf]; exact ms_2 _ (by omega) (by omega)
        · have HF := Lib.hid (M.inv_fail hI hM (by omega))
          clear hI hT hM
          go_wp2
          go_quiet (fail)
          go_wp2
          go_ret
          exact ⟨ret_bool HF.out.symm, below_drewN _ _⟩
    · have HE := Lib.hid (M.inv_end hI (by simpa using ha))
      clear hI
      go_wp2_with (go_at_call 48; refine (l_TrimLeft _ _).mono ?_; rintro e w' ⟨rfl, rfl⟩)
      go_ret
      exact ⟨ret_bool (by rw [List.take_of_length_le (by simp), trim_all]; exact HE.out.symm), below_drewN _ _⟩
end Go.Proofs.YtjiilfbomcibjaaGreatDoor.V
