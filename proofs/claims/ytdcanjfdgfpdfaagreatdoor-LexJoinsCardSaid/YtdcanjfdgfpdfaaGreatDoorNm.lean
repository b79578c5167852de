/- Whether a text is a name: the program's IsName and the reference's. -/
import Derived.Test.YtdcanjfdgfpdfaaGreatDoorRk
namespace Go.Proofs.YtdcanjfdgfpdfaaGreatDoor.V
open Go.ChangeShapes Go.WideShapes Go.ChangeAt Go.RowKit Go.Shelf
/-- A byte of a name. -/
def nameB (b : UInt8) : Bool := Lx.small b || b == 95 || Lx.digit b
theorem nameB_cls (b : UInt8) : nameB b = true ↔ (cls b = 2 ∨ cls b = 4 ∨ cls b = 5) := by
  have e : ∀ c : UInt8, (b = c) = (b.toNat = c.toNat) := fun c => propext UInt8.toNat_inj.symm
  have e95 : (95 : UInt8).toNat = 95 := rfl
  rw [cls_n]
  simp only [nameB, Lx.small, Lx.digit, Bool.or_eq_true, Bool.and_eq_true, decide_eq_true_eq, beq_iff_eq, e, e95]
  repeat' split
  all_goals omega
theorem nameB_n (b : UInt8) : nameB b = true ↔ ((97 ≤ b.toNat ∧ b.toNat ≤ 122) ∨ b.toNat = 95 ∨ (48 ≤ b.toNat ∧ b.toNat ≤ 57)) := by
  have e : ∀ c : UInt8, (b = c) = (b.toNat = c.toNat) := fun c => propext UInt8.toNat_inj.symm
  have e95 : (95 : UInt8).toNat = 95 := rfl
  simp only [nameB, Lx.small, Lx.digit, Bool.or_eq_true, Bool.and_eq_true, decide_eq_true_eq, beq_iff_eq, e, e95, or_assoc]
theorem nameB_word {b : UInt8} (h : nameB b = true) : Lx.wordB b = true := by
  rw [nameB_n] at h
  simp only [Lx.wordB, letter_n, digit_n, Bool.or_eq_true, decide_eq_true_eq]
  omega
theorem isName_is (s : Lx.Bs) : Lx.isName s = (decide (s ≠ []) && decide (s.length ≤ 20) && !(s.head?.any Lx.digit) && s.all nameB && !Lx.isKw (s.map Lx.up)) := rfl
theorem isName_empty : Lx.isName [] = false := rfl
theorem isName_long {s : Lx.Bs} (h : 20 < s.length) : Lx.isName s = false := by
  rw [isName_is, decide_eq_false (show ¬ s.length ≤ 20 by omega)]; simp
theorem isName_digit {s : Lx.Bs} (h : s.head?.any Lx.digit = true) : Lx.isName s = false := by rw [isName_is, h]; simp
theorem isName_bad {s : Lx.Bs} {b : UInt8} (hm : b ∈ s) (h : ¬ nameB b = true) : Lx.isName s = false := by
  have : s.all nameB = false := by
    rw [Bool.eq_false_iff]
    intro e
    exact h (List.all_eq_true.1 e b hm)
  rw [isName_is, this]; simp
theorem isName_end {s : Lx.Bs} (h0 : s ≠ []) (h1 : s.length ≤ 20) (h2 : s.head?.any Lx.digit = false) (h3 : s.all nameB = true) : Lx.isName s = !Lx.isKw (s.map Lx.up) := by
  rw [isName_is, h2, h3]; simp [h0, h1]
theorem name_no_kw {s : Lx.Bs} (h : Lx.isName s = true) : Lx.isKw s = false := by
  rw [Bool.eq_false_iff]
  intro hk
  obtain ⟨hc, h0⟩ := Lx.kw_cap hk
  rw [isName_is] at h
  simp only [Bool.and_eq_true] at h
  have h3 := h.1.2
  cases s with
  | nil => exact h0 rfl
  | cons b t =>
    have i1 := List.all_eq_true.1 hc b List.mem_cons_self
    have i2 := (nameB_n b).1 (List.all_eq_true.1 h3 b List.mem_cons_self)
    rw [cap_n, decide_eq_true_eq] at i1
    omega
theorem head_at (x : ByteArray) (h : 0 < x.size) : x.data.toList.head? = some x[0] := by
  rw [List.head?_eq_getElem?, at_get x 0 h]
theorem take_all {x : ByteArray} {k : Nat} (h : k < x.size) (h1 : (x.data.toList.take k).all nameB = true) (h2 : nameB x[k] = true) : (x.data.toList.take (k + 1)).all nameB = true := by
  rw [List.take_add_one, at_get x k h, List.all_append, h1]; simpa using h2
set_option maxHeartbeats 2000000 in
theorem c_IsName (x : ByteArray) (hx : x.size ≤ 9223372036854775000) (w : World) (E : Env w) : Calls Tryz.prog 46 #[.string x] w fun e w' => e = .returned (.bool (Lx.isName x.data.toList)) ∧ Below w.heap.size w w' := by
  have HE := Lib.hid E
  clear E
  cases hl : x.data.toList with
  | nil =>
    have e1 : x.toList = [] := by rw [ByteArray.toList_eq, hl]
    have HK := Lib.hid isName_empty
    clear hl
    go_enter Tryz.func46, Tryz.ntmps46
    go_wp2
    go_ret
    exact ⟨ret_bool HK.out.symm, Below.refl _ _⟩
  | cons c0 r0 =>
    have e1 : ¬ x.toList = [] := by rw [ByteArray.toList_eq, hl]; simp
    have e2 : x.toList.isEmpty = false := by rw [ByteArray.toList_eq, hl]; rfl
    have hne : x.data.toList ≠ [] := by rw [hl]; simp
    have h0 : 0 < x.size := by rw [← lenL, hl]; simp
    rw [← hl]
    clear hl
    by_cases h20 : 20 < x.size
    · have HK := Lib.hid (isName_long (s := x.data.toList) (by rw [lenL]; exact h20))
      clear hne
      go_enter Tryz.func46, Tryz.ntmps46
      go_wp2
      go_ret
      exact ⟨ret_bool HK.out.symm, Below.refl _ _⟩
    · have hh := head_at x h0
      have CC := Lib.hid (fun w => c_classOf x[0] w)
      by_cases hd : cls x[0] = 5
      · have HK := Lib.hid (isName_digit (s := x.data.toList) (by rw [hh]; simpa using dig_of_cls hd))
        have CC2 := CC.out
        rw [hd] at CC2
        have CC2 := Lib.hid CC2
        clear hne hh hd CC
        go_enter Tryz.func46, Tryz.ntmps46
        go_wp2_with fail
        refine (CC2.out _).mono ?_
        rintro e w1 ⟨rfl, rfl⟩
        go_wp2
        go_ret
        exact ⟨ret_bool HK.out.symm, Below.refl _ _⟩
      · have hdig : x.data.toList.head?.any Lx.digit = false := by
          rw [hh, Option.any_some, Bool.eq_false_iff]
          intro e
          apply hd
          rw [digit_n, decide_eq_true_eq] at e
          rw [cls_n, if_neg (by omega), if_neg (by omega), if_pos e]
        have HEND : Hid (x.data.toList.all nameB = true → Lx.isName x.data.toList = !Lx.isKw (x.data.toList.map Lx.up)) := fun h3 => isName_end hne (by rw [lenL]; omega) hdig h3
        have g5 : (cls x[0] == 5) = false := by simpa using hd
        obtain ⟨cc, hcc⟩ : ∃ cc, cls x[0] = cc := ⟨_, rfl⟩
        have CC2 := CC.out
        rw [hcc] at CC2 g5
        have CC2 := Lib.hid CC2
        clear hne hh hd CC hdig hcc
        go_enter Tryz.func46, Tryz.ntmps46
        go_wp2_with fail
        refine (CC2.out _).mono ?_
        rintro e w1 ⟨rfl, rfl⟩
        clear CC2
        go_wp2
        go_loop [19] (fun s19 => ∃ k : Nat, k ≤ x.size ∧ s19 = .int .i64 k ∧ Hid ((x.data.toList.take k).all nameB = true)) (fun s19 => x.size - (intOf s19).toNat)
        case atStart => exact ⟨0, by omega, rfl, rfl⟩
        case round =>
          obtain ⟨k, hk, rfl, HA⟩ := hrel
          by_cases hlt : k < x.size
          · have CK := Lib.hid (fun w => c_classOf x[k] w)
            by_cases hb : nameB x[k] = true
            · have HA2 := Lib.hid (take_all hlt HA.out hb)
              rw [nameB_cls] at hb
              rcases hb with hb | hb | hb
              all_goals
                have CK2 := CK.out
                rw [hb] at CK2
                have CK2 := Lib.hid CK2
                clear HA CK hb
                go_wp2_with fail
                refine (CK2.out _).mono ?_
                rintro e w2 ⟨rfl, rfl⟩
                go_wp2
                go_round
                case rel => exact ⟨k + 1, by omega, by go_num, HA2⟩
                case measure => simp [intOf]; omega
            · have HK := Lib.hid (isName_bad (List.mem_of_getElem? (at_get x k hlt)) hb)
              rw [nameB_cls] at hb
              have g2 : (cls x[k] == 2) = false := by simpa using fun e => hb (.inl e)
              have g4 : (cls x[k] == 4) = false := by simpa using fun e => hb (.inr (.inl e))
              have g5' : (cls x[k] == 5) = false := by simpa using fun e => hb (.inr (.inr e))
              obtain ⟨ck, hck⟩ : ∃ ck, cls x[k] = ck := ⟨_, rfl⟩
              have CK2 := CK.out
              rw [hck] at CK2 g2 g4 g5'
              have CK2 := Lib.hid CK2
              clear HA CK hb hck
              go_wp2_with fail
              refine (CK2.out _).mono ?_
              rintro e w2 ⟨rfl, rfl⟩
              go_wp2
              go_ret
              exact ⟨ret_bool HK.out.symm, Below.refl _ _⟩
          · obtain rfl : k = x.size := by omega
            have HA2 : Hid (x.data.toList.all nameB = true) := by
              have := HA.out
              rwa [List.take_of_length_le (by rw [lenL]; exact Nat.le_refl _)] at this
            have CU := Lib.hid (fun w => l_Upper x (by omega) (fun b hb => nameB_word (List.all_eq_true.1 HA2.out b hb)) w)
            clear HA
            go_wp2_with fail
            refine (CU.out _).mono ?_
            rintro e w2 ⟨rfl, hb2⟩
            have HE2 := HE.out.below hb2
            go_wp2_with fail
            refine (c_IsKeyword _ _ HE2.tab).mono ?_
            rintro e w3 ⟨rfl, hb3⟩
            have hd : ∀ l : List UInt8, (⟨l.toArray⟩ : ByteArray).data.toList = l := fun l => by simp
            rw [hd]
            clear hd
            have HR := Lib.hid (HEND.out HA2.out)
            go_wp2
            go_ret
            exact ⟨ret_bool HR.out.symm, bel_trans hb2 hb3⟩
end Go.Proofs.YtdcanjfdgfpdfaaGreatDoor.V
