/- Contracts of the reference's number and unquoted at any text. -/
import Derived.Test.YtjiilfbomcibjaaGreatDoorReadR
namespace Go.Proofs.YtjiilfbomcibjaaGreatDoor.V
open Go.ChangeShapes Go.WideShapes Go.ChangeAt Go.RowKit Go.Proofs.YtjiilfbomcibjaaGreatDoor.L
theorem dv_up (d : ByteArray) (k : Nat) (h : k < d.size) : T.dv 0 (d.data.toList.take (k + 1)) = T.dv 0 (d.data.toList.take k) * 10 + (d[k].toNat - 48) := by rw [take_next d k h, T.dv_snoc]
theorem dv_top (d : ByteArray) (k : Nat) : T.dv 0 (d.data.toList.take k) ≤ T.dv 0 d.data.toList := by
  have h := T.dv_append (d.data.toList.drop k) (d.data.toList.take k) 0
  rw [List.take_append_drop] at h
  rw [h]
  exact T.dv_le _ _
theorem dv_end (d : ByteArray) : T.dv 0 (d.data.toList.take d.size) = T.dv 0 d.data.toList := by rw [List.take_of_length_le (by simp)]
theorem digs_at (d : ByteArray) (hg : T.digs d.data.toList) (k : Nat) (h : k < d.size) : 48 ≤ d[k].toNat ∧ d[k].toNat ≤ 57 :=
  hg d[k] (by
    have e : d[k] = d.data.toList[k]'(by simpa using h) := rfl
    rw [e]; exact List.getElem_mem _)
set_option maxRecDepth 20000 in
theorem number_minus (s d : ByteArray) (hd : s.extract 1 s.size = d) (hs : s.size ≤ 140737488351232) (h : 0 < s.size) (h45 : (s[0].toNat : Int) = 45) (hz : d.size = s.size - 1) (hg : T.digs d.data.toList)
    (w : World) : Calls Tryz.prog 59 #[.string s] w fun e w' => e = .returned (exact (-(T.dv 0 d.data.toList : Int))) ∧ Below w.heap.size w w' := by
  have e3 : ((s[0].toNat : Int) == 45) = true := by simpa using h45
  go_enter Tryz.func59, Tryz.ntmps59
  go_wp2_with fail
  have hds : d.size ≤ 140737488351232 := by omega
  clear hd h45 e3 hz hs h
  go_loopw [6, 7] (fun a i wr => ∃ (k : Nat) (n : Int), k ≤ d.size ∧ a = .int .i64 n ∧ i = .int .i64 k ∧ wr = w ∧ n = -(T.dv 0 (d.data.toList.take k) : Int) ∧ Fits n) (fun _ i _ => d.size - (intOf i).toNat)
  case atStart => exact ⟨0, 0, by omega, rfl, rfl, rfl, rfl, by unfold Fits; omega⟩
  case round =>
    obtain ⟨k, n, hk, rfl, rfl, rfl, hn, hf⟩ := hrel
    have HF := Lib.hid hf
    have HG := Lib.hid hg
    by_cases hk' : k < d.size
    · have hc := digs_at d HG.out k hk'
      have hc1 : (48 : Int) ≤ d[k].toNat := by omega
      have hc2 : (d[k].toNat : Int) ≤ 57 := by omega
      have up := dv_up d k hk'
      have top := dv_top d (k + 1)
      have nx : n * 10 + -((d[k].toNat : Int) - 48) = -(T.dv 0 (d.data.toList.take (k + 1)) : Int) := by rw [hn, up]; omega
      by_cases f1 : Fits (n * 10)
      · have M := Lib.hid (fun w => (exact_in _ f1) ▸ r_Mul n 10 HF.out (by unfold Fits; omega) w)
        by_cases f2 : Fits (n * 10 + -((d[k].toNat : Int) - 48))
        · have A := Lib.hid (fun w => (exact_in _ f2) ▸ r_Add (n * 10) (-((d[k].toNat : Int) - 48)) f1 (by unfold Fits; omega) w)
          have F2 := Lib.hid f2
          have NX := Lib.hid nx
          clear f1 f2 hc up top nx hn hf hg
          go_wp2_with (first | (go_at_call 25; refine (M.out _).mono ?_; rintro e w' ⟨rfl, rfl⟩) | (go_at_call 19; refine (A.out _).mono ?_; rintro e w' ⟨rfl, rfl⟩))
          go_roundw
          case rel => exact ⟨k + 1, _, by omega, rfl, by go_num, (by first | trivial | rfl), NX.out, F2.out⟩
          case measure => simp [intOf]; omega
        · have A := Lib.hid (fun w => (exact_out _ f2) ▸ r_Add (n * 10) (-((d[k].toNat : Int) - 48)) f1 (by unfold Fits; omega) w)
          have R := Lib.hid (exact_out (-(T.dv 0 d.data.toList : Int)) (by unfold Fits at *; omega))
          clear f1 f2 hc up top nx hn hf hg
          go_wp2_with (first | (go_at_call 25; refine (M.out _).mono ?_; rintro e w' ⟨rfl, rfl⟩) | (go_at_call 19; refine (A.out _).mono ?_; rintro e w' ⟨rfl, rfl⟩))
          go_ret2
          exact ⟨congrArg Ending.returned R.out.symm, Below.refl _ _⟩
      · have M := Lib.hid (fun w => (exact_out _ f1) ▸ r_Mul n 10 HF.out (by unfold Fits; omega) w)
        have R := Lib.hid (exact_out (-(T.dv 0 d.data.toList : Int)) (by unfold Fits at *; omega))
        clear f1 hc up top nx hn hf hg
        go_wp2_with (first | (go_at_call 25; refine (M.out _).mono ?_; rintro e w' ⟨rfl, rfl⟩))
        go_ret2
        exact ⟨congrArg Ending.returned R.out.symm, Below.refl _ _⟩
    · obtain rfl : k = d.size := by omega
      rw [dv_end] at hn
      have R := Lib.hid (exact_in n HF.out)
      have HN := Lib.hid hn
      clear hn hf hg
      go_wp2
      go_ret2
      refine ⟨?_, Below.refl _ _⟩
      rw [← HN.out, R.out]; rfl
set_option maxRecDepth 20000 in
theorem number_plus (d : ByteArray) (hs : d.size ≤ 140737488351232) (h : 0 < d.size) (h45 : ¬ (d[0].toNat : Int) = 45) (hg : T.digs d.data.toList)
    (w : World) : Calls Tryz.prog 59 #[.string d] w fun e w' => e = .returned (exact (T.dv 0 d.data.toList : Int)) ∧ Below w.heap.size w w' := by
  have e3 : ((d[0].toNat : Int) == 45) = false := by simpa using h45
  go_enter Tryz.func59, Tryz.ntmps59
  go_wp2_with fail
  clear h45 e3
  go_loopw [6, 7] (fun a i wr => ∃ (k : Nat) (n : Int), k ≤ d.size ∧ a = .int .i64 n ∧ i = .int .i64 k ∧ wr = w ∧ n = (T.dv 0 (d.data.toList.take k) : Int) ∧ Fits n) (fun _ i _ => d.size - (intOf i).toNat)
  case atStart => exact ⟨0, 0, by omega, rfl, rfl, rfl, rfl, by unfold Fits; omega⟩
  case round =>
    obtain ⟨k, n, hk, rfl, rfl, rfl, hn, hf⟩ := hrel
    have HF := Lib.hid hf
    have HG := Lib.hid hg
    by_cases hk' : k < d.size
    · have hc := digs_at d HG.out k hk'
      have hc1 : (48 : Int) ≤ d[k].toNat := by omega
      have hc2 : (d[k].toNat : Int) ≤ 57 := by omega
      have up := dv_up d k hk'
      have top := dv_top d (k + 1)
      have nx : n * 10 + ((d[k].toNat : Int) - 48) = (T.dv 0 (d.data.toList.take (k + 1)) : Int) := by rw [hn, up]; omega
      by_cases f1 : Fits (n * 10)
      · have M := Lib.hid (fun w => (exact_in _ f1) ▸ r_Mul n 10 HF.out (by unfold Fits; omega) w)
        by_cases f2 : Fits (n * 10 + ((d[k].toNat : Int) - 48))
        · have A := Lib.hid (fun w => (exact_in _ f2) ▸ r_Add (n * 10) (((d[k].toNat : Int) - 48)) f1 (by unfold Fits; omega) w)
          have F2 := Lib.hid f2
          have NX := Lib.hid nx
          clear f1 f2 hc up top nx hn hf hg
          go_wp2_with (first | (go_at_call 25; refine (M.out _).mono ?_; rintro e w' ⟨rfl, rfl⟩) | (go_at_call 19; refine (A.out _).mono ?_; rintro e w' ⟨rfl, rfl⟩))
          go_roundw
          case rel => exact ⟨k + 1, _, by omega, rfl, by go_num, (by first | trivial | rfl), NX.out, F2.out⟩
          case measure => simp [intOf]; omega
        · have A := Lib.hid (fun w => (exact_out _ f2) ▸ r_Add (n * 10) (((d[k].toNat : Int) - 48)) f1 (by unfold Fits; omega) w)
          have R := Lib.hid (exact_out (T.dv 0 d.data.toList : Int) (by unfold Fits at *; omega))
          clear f1 f2 hc up top nx hn hf hg
          go_wp2_with (first | (go_at_call 25; refine (M.out _).mono ?_; rintro e w' ⟨rfl, rfl⟩) | (go_at_call 19; refine (A.out _).mono ?_; rintro e w' ⟨rfl, rfl⟩))
          go_ret2
          exact ⟨congrArg Ending.returned R.out.symm, Below.refl _ _⟩
      · have M := Lib.hid (fun w => (exact_out _ f1) ▸ r_Mul n 10 HF.out (by unfold Fits; omega) w)
        have R := Lib.hid (exact_out (T.dv 0 d.data.toList : Int) (by unfold Fits at *; omega))
        clear f1 hc up top nx hn hf hg
        go_wp2_with (first | (go_at_call 25; refine (M.out _).mono ?_; rintro e w' ⟨rfl, rfl⟩))
        go_ret2
        exact ⟨congrArg Ending.returned R.out.symm, Below.refl _ _⟩
    · obtain rfl : k = d.size := by omega
      rw [dv_end] at hn
      have R := Lib.hid (exact_in n HF.out)
      have HN := Lib.hid hn
      clear hn hf hg
      go_wp2
      go_ret2
      refine ⟨?_, Below.refl _ _⟩
      rw [← HN.out, R.out]; rfl
end Go.Proofs.YtjiilfbomcibjaaGreatDoor.V
