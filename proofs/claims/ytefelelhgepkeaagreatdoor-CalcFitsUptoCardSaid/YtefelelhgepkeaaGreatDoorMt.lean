/- The patterns of package value, and the integers that AND, OR and comparison lean on. -/
import Derived.Test.YtefelelhgepkeaaGreatDoorCmp
import Derived.Deep.DeepCutAuto
import Derived.Test.YtefelelhgepkeaaGreatDoorMat
namespace Go.Proofs.YtefelelhgepkeaaGreatDoor.V
open Go.ChangeShapes Go.WideShapes Go.ChangeAt Go.RowKit
theorem l_TrimLeft (s : ByteArray) (w : World) : Calls Tryz.prog 123 #[.string s, .string ⟨#[37]⟩] w fun e w' => e = .returned (.string ⟨(Lib.trimLeftB s.data.toList 37).toArray⟩) ∧ w = w' :=
  (Tryz.strings_TrimLeft_one s 37 (by decide) w).mono fun _ _ ⟨he, hw⟩ => ⟨he, hw.symm⟩
/-- The text matches the pattern. -/
def matchB (s p : ByteArray) : Bool := M.mt s.data.toList p.data.toList
theorem trim_all (l : List UInt8) : (Lib.trimLeftB l 37).isEmpty = l.all (· == 37) := by
  unfold Lib.trimLeftB
  induction l with
  | nil => rfl
  | cons d l ih =>
    rw [List.dropWhile_cons, List.all_cons]
    by_cases h : d = 37 <;> simp [h, ih]
theorem ms_1 (N : Nat) {A A' x x' y y' : Nat} (h : A' + 1 ≤ A) (hx : x' ≤ N) (hy : y' ≤ N) : A' * ((N + 1) * (N + 1)) + x' * (N + 1) + y' < A * ((N + 1) * (N + 1)) + x * (N + 1) + y := by
  have h1 := Nat.mul_le_mul_right ((N + 1) * (N + 1)) h
  have h2 := Nat.mul_le_mul_right (N + 1) hx
  have h3 : (N + 1) * (N + 1) = N * (N + 1) + (N + 1) := by rw [Nat.add_mul, Nat.one_mul]
  rw [Nat.add_mul, Nat.one_mul] at h1
  omega
theorem ms_2 (N : Nat) {A x x' y y' : Nat} (h : x' + 1 ≤ x) (hy : y' ≤ N) : A * ((N + 1) * (N + 1)) + x' * (N + 1) + y' < A * ((N + 1) * (N + 1)) + x * (N + 1) + y := by
  have h1 := Nat.mul_le_mul_right (N + 1) h
  rw [Nat.add_mul, Nat.one_mul] at h1
  omega
theorem ms_3 (N : Nat) {A x y y' : Nat} (h : y' < y) : A * ((N + 1) * (N + 1)) + x * (N + 1) + y' < A * ((N + 1) * (N + 1)) + x * (N + 1) + y := by omega
set_option maxHeartbeats 1600000 in
theorem c_Matches (s p : ByteArray) (hs : s.size ≤ maxLen) (hp : p.size ≤ maxLen) (w : World) : Calls Tryz.prog 111 #[.string s, .string p] w fun e w' => e = .returned (.bool (matchB s p)) ∧ Below w.heap.size w w' := by
  unfold maxLen at hs hp
  go_enter Tryz.func111, Tryz.ntmps111
  go_wp2
  go_loopw [5, 6, 7, 8] (fun x5 x6 x7 x8 wr => ∃ (at' place piece n : Nat) (after : Int), x5 = .int .i64 at' ∧ x6 = .int .i64 place ∧ x7 = .int .i64 after ∧ x8 = .int .i64 piece ∧ wr = w.drewN n ∧ at' ≤ s.size ∧ place ≤ p.size ∧ piece ≤ at' ∧ after ≤ place ∧ -1 ≤ after ∧ M.Inv s.data.toList p.data.toList at' place after piece)
    (fun x5 _ x7 x8 _ => (p.size + 1 - (intOf x7 + 1).toNat) * ((s.size + 1) * (s.size + 1)) + (s.size - (intOf x8).toNat) * (s.size + 1) + (s.size - (intOf x5).toNat))
  case atStart => exact ⟨0, 0, 0, 0, -1, rfl, rfl, rfl, rfl, rfl, by omega, by omega, by omega, by omega, by omega, M.inv_start _ _⟩
  case round =>
    obtain ⟨at', place, piece, n, after, rfl, rfl, rfl, rfl, rfl, h1, h2, h3, h4, h5, hI⟩ := hrel
    by_cases ha : at' < s.size
    · have hT := drop_cons s at' ha
      by_cases hpl : place < p.size
      · have hP := drop_cons p place hpl
        by_cases h37 : p[place] = 37
        · have HI := Lib.hid (M.inv_star hI (hP.trans (by rw [h37])))
          clear hI hT hP
          go_wp2
          go_roundw
          case rel => exact ⟨at', place + 1, at', n, (place : Int) + 1, rfl, by go_num, rfl, rfl, rfl, by omega, by omega, by omega, by omega, by omega, HI.out⟩
          case measure => simp only [intOf]; exact ms_1 _ (by omega) (by omega) (by omega)
        · have g1 : ((p[place].toNat : Int) == 37) = false := by simp; intro h; exact h37 (UInt8.toNat_inj.1 (show p[place].toNat = 37 by omega))
          by_cases h95 : p[place] = 95
          · have HI := Lib.hid (M.inv_char hI hT hP h37 (.inl h95))
            clear hI hT hP h37
            go_wp2
            go_quiet (fail)
            go_wp2
            go_roundw
            case rel => exact ⟨at' + 1, place + 1, piece, _, after, by go_num, by go_num, rfl, rfl, rfl, by omega, by omega, by omega, by omega, by omega, HI.out⟩
            case measure => simp only [intOf]; exact ms_3 _ (by omega)
          · have g2 : ((p[place].toNat : Int) == 95) = false := by simp; intro h; exact h95 (UInt8.toNat_inj.1 (show p[place].toNat = 95 by omega))
            by_cases hc : p[place] = s[at']
            · have HI := Lib.hid (M.inv_char hI hT hP h37 (.inr hc))
              have g3 : ((p[place].toNat : Int) == (s[at'].toNat : Int)) = true := by rw [hc]; simp
              clear hI hT hP h37 h95 hc
              go_wp2
              go_quiet (fail)
              go_wp2
              go_roundw
              case rel => exact ⟨at' + 1, place + 1, piece, _, after, by go_num, by go_num, rfl, rfl, rfl, by omega, by omega, by omega, by omega, by omega, HI.out⟩
              case measure => simp only [intOf]; exact ms_3 _ (by omega)
            · have g3 : ((p[place].toNat : Int) == (s[at'].toNat : Int)) = false := by simp; intro h; exact hc (UInt8.toNat_inj.1 (by omega))
              have hM := M.miss_char hT hP h37 h95 hc
              by_cases h0 : 0 ≤ after
              · have HI := Lib.hid (M.inv_back hI (by simpa using ha) hM h0)
                clear hI hT hP h37 h95 hc hM
                go_wp2
                go_quiet (fail)
                go_wp2
                go_roundw
                case rel => exact ⟨piece + 1, after.toNat, piece + 1, _, after, by go_num, by congr; omega, rfl, by go_num, rfl, by omega, by omega, by omega, by omega, by omega, HI.out⟩
                case measure => simp only [intOf]; exact ms_2 _ (by omega) (by omega)
              · have HF := Lib.hid (M.inv_fail hI hM (by omega))
                clear hI hT hP h37 h95 hc hM
                go_wp2
                go_quiet (fail)
                go_wp2
                go_ret
                exact ⟨ret_bool HF.out.symm, below_drewN _ _⟩
      · have hM := M.miss_end (T := s.data.toList) (P := p.data.toList) (at' := at') (place := place) (by simpa using ha) (by simpa using hpl)
        by_cases h0 : 0 ≤ after
        · have HI := Lib.hid (M.inv_back hI (by simpa using ha) hM h0)
          clear hI hT hM
          go_wp2
          go_quiet (fail)
          go_wp2
          go_roundw
          case rel => exact ⟨piece + 1, after.toNat, piece + 1, _, after, by go_num, by congr; omega, rfl, by go_num, rfl, by omega, by omega, by omega, by omega, by omega, HI.out⟩
          case measure => simp only [intOf]; exact ms_2 _ (by omega) (by omega)
        · have HF := Lib.hid (M.inv_fail hI hM (by omega))
          clear hI hT hM
          go_wp2
          go_quiet (fail)
          go_wp2
          go_ret
          exact ⟨ret_bool HF.out.symm, below_drewN _ _⟩
    · have HE := Lib.hid (M.inv_end hI (by simpa using ha))
      clear hI
      go_wp2_with (go_at_call 123; refine (l_TrimLeft _ _).mono ?_; rintro e w' ⟨rfl, rfl⟩)
      go_ret
      exact ⟨ret_bool (by rw [List.take_of_length_le (by simp), trim_all]; exact HE.out.symm), below_drewN _ _⟩
end Go.Proofs.YtefelelhgepkeaaGreatDoor.V
