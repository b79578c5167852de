/- The reference's IsName, and the law LexNames, walked. -/
import Derived.Test.YtdcanjfdgfpdfaaDoorNm
namespace Go.Proofs.YtdcanjfdgfpdfaaDoor.V
open Go.ChangeShapes Go.WideShapes Go.ChangeAt Go.RowKit Go.Shelf
set_option maxHeartbeats 2000000 in
theorem r_IsName (x : ByteArray) (hx : x.size ≤ 9223372036854775000) (w : World) : Calls Tryd.prog 9 #[.string x] w fun e w' => e = .returned (.bool (Lx.isName x.data.toList)) ∧ Below w.heap.size w w' := by
  cases hl : x.data.toList with
  | nil =>
    have e1 : x.toList = [] := by rw [ByteArray.toList_eq, hl]
    have HK := Lib.hid isName_empty
    clear hl
    go_enter Tryd.func9, Tryd.ntmps9
    go_wp2
    go_ret
    exact ⟨ret_bool HK.out.symm, Below.refl _ _⟩
  | cons c0 r0 =>
    have e1 : ¬ x.toList = [] := by rw [ByteArray.toList_eq, hl]; simp
    have e2 : x.toList.isEmpty = false := by rw [ByteArray.toList_eq, hl]; rfl
    have hne : x.data.toList ≠ [] := by rw [hl]; simp
    have h0 : 0 < x.size := by rw [← lenL, hl]; simp
    rw [← hl]
    clear hl
    by_cases h20 : 20 < x.size
    · have HK := Lib.hid (isName_long (s := x.data.toList) (by rw [lenL]; exact h20))
      clear hne
      go_enter Tryd.func9, Tryd.ntmps9
      go_wp2
      go_ret
      exact ⟨ret_bool HK.out.symm, Below.refl _ _⟩
    · have hh := head_at x h0
      have CC := Lib.hid (fun w => r_isDigit x[0] w)
      cases hd : Lx.digit x[0] with
      | true =>
        have HK := Lib.hid (isName_digit (s := x.data.toList) (by rw [hh]; simpa using hd))
        have CC2 := CC.out
        rw [hd] at CC2
        have CC2 := Lib.hid CC2
        clear hne hh hd CC
        go_enter Tryd.func9, Tryd.ntmps9
        go_wp2_with fail
        refine (CC2.out _).mono ?_
        rintro e w1 ⟨rfl, rfl⟩
        go_wp2
        go_ret
        exact ⟨ret_bool HK.out.symm, Below.refl _ _⟩
      | false =>
        have hdig : x.data.toList.head?.any Lx.digit = false := by rw [hh, Option.any_some, hd]
        have HEND : Hid (x.data.toList.all nameB = true → Lx.isName x.data.toList = !Lx.isKw (x.data.toList.map Lx.up)) := fun h3 => isName_end hne (by rw [lenL]; omega) hdig h3
        have CC2 := CC.out
        rw [hd] at CC2
        have CC2 := Lib.hid CC2
        clear hne hh hd CC hdig
        go_enter Tryd.func9, Tryd.ntmps9
        go_wp2_with fail
        refine (CC2.out _).mono ?_
        rintro e w1 ⟨rfl, rfl⟩
        clear CC2
        go_wp2
        go_loop [3] (fun s3 => ∃ k : Nat, k ≤ x.size ∧ s3 = .int .i64 k ∧ Hid ((x.data.toList.take k).all nameB = true)) (fun s3 => x.size - (intOf s3).toNat)
        case atStart => exact ⟨0, by omega, rfl, rfl⟩
        case round =>
          obtain ⟨k, hk, rfl, HA⟩ := hrel
          by_cases hlt : k < x.size
          · have cl := fun w => r_isLetter x[k] w
            have cd := fun w => r_isDigit x[k] w
            obtain ⟨lb, hlb⟩ : ∃ lb, Lx.letter x[k] = lb := ⟨_, rfl⟩
            obtain ⟨db, hdb⟩ : ∃ db, Lx.digit x[k] = db := ⟨_, rfl⟩
            rw [hlb] at cl
            rw [hdb] at cd
            have CL := Lib.hid cl
            have CD := Lib.hid cd
            rw [letter_n] at hlb
            rw [digit_n] at hdb
            by_cases hb : nameB x[k] = true
            · have HA2 := Lib.hid (take_all hlt HA.out hb)
              rw [nameB_n] at hb
              clear HA cl cd
              by_cases h97 : 97 ≤ x[k].toNat ∧ x[k].toNat ≤ 122 ∨ x[k].toNat = 95
              · obtain rfl : lb = true := by rw [← hlb, decide_eq_true_eq]; omega
                have g1 : ¬ ((x[k].toNat : Int) ≤ 90) := by omega
                have g2 : (90 : Int) < x[k].toNat := by omega
                have g3 : (65 : Int) ≤ x[k].toNat := by omega
                clear hlb hdb hb h97 g1
                go_wp2_with fail
                refine (CL.out _).mono ?_
                rintro e w2 ⟨rfl, rfl⟩
                go_wp2
                go_round
                case rel => exact ⟨k + 1, by omega, by go_num, HA2⟩
                case measure => simp [intOf]; omega
              · obtain rfl : lb = false := by rw [← hlb, decide_eq_false_iff_not]; omega
                obtain rfl : db = true := by rw [← hdb, decide_eq_true_eq]; omega
                have g2 : (x[k].toNat : Int) < 65 := by omega
                clear hlb hdb hb h97
                go_wp2_with fail
                refine (CL.out _).mono ?_
                rintro e w2 ⟨rfl, rfl⟩
                go_wp2_with fail
                refine (CD.out _).mono ?_
                rintro e w2 ⟨rfl, rfl⟩
                go_wp2
                go_round
                case rel => exact ⟨k + 1, by omega, by go_num, HA2⟩
                case measure => simp [intOf]; omega
            · have HK := Lib.hid (isName_bad (List.mem_of_getElem? (at_get x k hlt)) hb)
              rw [nameB_n] at hb
              clear HA cl cd
              by_cases h65 : 65 ≤ x[k].toNat ∧ x[k].toNat ≤ 90
              · obtain rfl : lb = true := by rw [← hlb, decide_eq_true_eq]; omega
                have g2 : (65 : Int) ≤ x[k].toNat := by omega
                have g3 : (x[k].toNat : Int) ≤ 90 := by omega
                clear hlb hdb hb h65
                go_wp2_with fail
                refine (CL.out _).mono ?_
                rintro e w2 ⟨rfl, rfl⟩
                go_wp2
                go_ret
                exact ⟨ret_bool HK.out.symm, Below.refl _ _⟩
              · obtain rfl : lb = false := by rw [← hlb, decide_eq_false_iff_not]; omega
                obtain rfl : db = false := by rw [← hdb, decide_eq_false_iff_not]; omega
                clear hlb hdb hb h65
                go_wp2_with fail
                refine (CL.out _).mono ?_
                rintro e w2 ⟨rfl, rfl⟩
                go_wp2_with fail
                refine (CD.out _).mono ?_
                rintro e w2 ⟨rfl, rfl⟩
                go_wp2
                go_ret
                exact ⟨ret_bool HK.out.symm, Below.refl _ _⟩
          · obtain rfl : k = x.size := by omega
            have HA2 : Hid (x.data.toList.all nameB = true) := by
              have := HA.out
              rwa [List.take_of_length_le (by rw [lenL]; exact Nat.le_refl _)] at this
            clear HA
            go_wp2_with fail
            refine (r_foldedUp x (by omega) _).mono ?_
            rintro e w2 ⟨rfl, hb2⟩
            obtain ⟨u, hu⟩ : ∃ u : ByteArray, (⟨(x.data.toList.map Lx.up).toArray⟩ : ByteArray) = u := ⟨_, rfl⟩
            have hul : u.data.toList = x.data.toList.map Lx.up := by rw [← hu]
            have hus : u.size ≤ 20 := by rw [← lenL, hul, List.length_map, lenL]; omega
            have HU := Lib.hid hul
            rw [hu]
            clear hu hul
            go_wp2_with fail
            refine (r_IsKeyword u (by omega) _).mono ?_
            rintro e w3 ⟨rfl, rfl⟩
            rw [HU.out]
            have HR := Lib.hid (HEND.out HA2.out)
            go_wp2
            go_ret
            exact ⟨ret_bool HR.out.symm, hb2⟩
set_option maxHeartbeats 4000000 in
theorem walk_names (x : ByteArray) (hx : x.size ≤ 9223372036854775000) (w : World) (E : Env w) : Calls Tryd.prog 3 #[.string x] w fun e w' => e = .returned (.bool true) ∧ Below w.heap.size w w' := by
  have HE := Lib.hid E
  clear E
  have cn : ∀ w, Env w → Calls Tryd.prog 8 #[.string x] w fun e w' => e = .returned (.bool (Lx.isName x.data.toList)) ∧ Below w.heap.size w w' := fun w E => c_IsName x hx w E
  have rn : ∀ w, Calls Tryd.prog 9 #[.string x] w fun e w' => e = .returned (.bool (Lx.isName x.data.toList)) ∧ Below w.heap.size w w' := fun w => r_IsName x hx w
  have ck : ∀ w, Env w → Calls Tryd.prog 10 #[.string x] w fun e w' => e = .returned (.bool (Lx.isKw x.data.toList)) ∧ Below w.heap.size w w' := fun w E => c_IsKeyword x w E.tab
  have rk : ∀ w, Calls Tryd.prog 11 #[.string x] w fun e w' => e = .returned (.bool (Lx.isKw x.data.toList)) ∧ w = w' := fun w => r_IsKeyword x hx w
  have ct : ∀ w, Env w → Calls Tryd.prog 12 #[.string x] w (TokPost w (Lx.toks x.data.toList)) := fun w E => c_Tokens x w E
  have AW : Hid (∀ w, Env w → Calls Tryd.prog 13 #[] w fun e w' => e = .returned (.bool true) ∧ Below w.heap.size w w') := fun w E => awake w E
  cases hn : Lx.isName x.data.toList with
  | true =>
    have hk := name_no_kw hn
    have ht := Lx.names hn
    rw [hn] at cn rn
    rw [hk] at ck rk
    rw [ht] at ct
    have CN := Lib.hid cn
    have RN := Lib.hid rn
    have CK := Lib.hid ck
    have RK := Lib.hid rk
    have CT := Lib.hid ct
    clear cn rn ck rk ct hn hk ht
    go_enter Tryd.func3, Tryd.ntmps3
    go_wp2_with fail
    refine (CN.out _ HE.out).mono ?_
    rintro e w1 ⟨rfl, hb1⟩
    have HE1 := Lib.hid (HE.out.below hb1)
    have HB1 := Lib.hid hb1
    clear hb1
    go_wp2_with fail
    refine (RN.out _).mono ?_
    rintro e w2 ⟨rfl, hb2⟩
    have HE2 := Lib.hid (HE1.out.below hb2)
    have HB2 := Lib.hid (bel_trans HB1.out hb2)
    clear hb2 HE1 HB1
    go_wp2_with fail
    refine (CK.out _ HE2.out).mono ?_
    rintro e w3 ⟨rfl, hb3⟩
    have HE3 := Lib.hid (HE2.out.below hb3)
    have HB3 := Lib.hid (bel_trans HB2.out hb3)
    clear hb3 HE2 HB2
    go_wp2_with fail
    refine (RK.out _).mono ?_
    rintro e w4 ⟨rfl, rfl⟩
    go_wp2_with fail
    refine (CN.out _ HE3.out).mono ?_
    rintro e w5 ⟨rfl, hb5⟩
    have HE5 := Lib.hid (HE3.out.below hb5)
    have HB5 := Lib.hid (bel_trans HB3.out hb5)
    clear hb5 HE3 HB3
    go_wp2_with fail
    refine (CK.out _ HE5.out).mono ?_
    rintro e w6 ⟨rfl, hb6⟩
    have HE6 := Lib.hid (HE5.out.below hb6)
    have HB6 := Lib.hid (bel_trans HB5.out hb6)
    clear hb6 HE5 HB5
    go_wp2_with fail
    refine (CT.out _ HE6.out).mono ?_
    intro e w7 h
    obtain ⟨a, ca, rfl, hr, hca, hcm, hb⟩ := h.reads
    obtain ⟨g, o, t, rfl, ht, c0, c1, c2⟩ := hr.fields (k := 0) (by simp)
    have ht2 : t = ⟨2, x.data.toList, 0⟩ := by simpa using ht.symm
    subst ht2
    have HE7 := Lib.hid (HE6.out.below hb)
    have HB7 := Lib.hid (bel_trans HB6.out hb)
    have C0 : Hid (w7.cell? ⟨g, o, none⟩ = some (.int .u8 2)) := by show _ = _; simpa using c0
    have C1 : Hid (w7.cell? ⟨g, o + 1, none⟩ = some (.string x)) := by show _ = _; simpa using c1
    clear h hr hb c0 c1 c2 ht HE6 HB6
    dsimp only [List.length_nil, List.length_cons]
    go_wp2_with fail
    refine (CN.out _ HE7.out).mono ?_
    rintro e w8 ⟨rfl, hb8⟩
    have c0 := cellb hb8 C0.out
    have c1 := cellb hb8 C1.out
    have HE8 := Lib.hid (HE7.out.below hb8)
    have HB8 := Lib.hid (bel_trans HB7.out hb8)
    have gs : (x.toList != x.toList) = false := by simp
    clear hb8 HE7 HB7 C0 C1
    go_wp2_with fail
    refine (AW.out _ HE8.out).mono ?_
    rintro e w9 ⟨rfl, hb9⟩
    go_wp2
    go_ret
    exact ⟨rfl, bel_trans HB8.out hb9⟩
  | false =>
    obtain ⟨kb, hkb⟩ : ∃ kb, Lx.isKw x.data.toList = kb := ⟨_, rfl⟩
    generalize Lx.toks x.data.toList = tk at ct
    rw [hn] at cn rn
    rw [hkb] at ck rk
    have gk : (kb != kb) = false := by simp
    have CN := Lib.hid cn
    have RN := Lib.hid rn
    have CK := Lib.hid ck
    have RK := Lib.hid rk
    have CT := Lib.hid ct
    clear cn rn ck rk ct hn hkb
    go_enter Tryd.func3, Tryd.ntmps3
    go_wp2_with fail
    refine (CN.out _ HE.out).mono ?_
    rintro e w1 ⟨rfl, hb1⟩
    have HE1 := Lib.hid (HE.out.below hb1)
    have HB1 := Lib.hid hb1
    clear hb1
    go_wp2_with fail
    refine (RN.out _).mono ?_
    rintro e w2 ⟨rfl, hb2⟩
    have HE2 := Lib.hid (HE1.out.below hb2)
    have HB2 := Lib.hid (bel_trans HB1.out hb2)
    clear hb2 HE1 HB1
    go_wp2_with fail
    refine (CK.out _ HE2.out).mono ?_
    rintro e w3 ⟨rfl, hb3⟩
    have HE3 := Lib.hid (HE2.out.below hb3)
    have HB3 := Lib.hid (bel_trans HB2.out hb3)
    clear hb3 HE2 HB2
    go_wp2_with fail
    refine (RK.out _).mono ?_
    rintro e w4 ⟨rfl, rfl⟩
    go_wp2_with fail
    refine (CN.out _ HE3.out).mono ?_
    rintro e w5 ⟨rfl, hb5⟩
    have HE5 := Lib.hid (HE3.out.below hb5)
    have HB5 := Lib.hid (bel_trans HB3.out hb5)
    clear hb5 HE3 HB3
    go_wp2_with fail
    refine (CT.out _ HE5.out).mono ?_
    intro e w7 h
    obtain ⟨a, ca, rfl, hr, hca, hcm, hb⟩ := h.reads
    have HE7 := Lib.hid (HE5.out.below hb)
    have HB7 := Lib.hid (bel_trans HB5.out hb)
    clear h hr hb HE5 HB5
    go_wp2_with fail
    refine (CN.out _ HE7.out).mono ?_
    rintro e w8 ⟨rfl, hb8⟩
    have HE8 := Lib.hid (HE7.out.below hb8)
    have HB8 := Lib.hid (bel_trans HB7.out hb8)
    clear hb8 HE7 HB7
    go_wp2_with fail
    refine (AW.out _ HE8.out).mono ?_
    rintro e w9 ⟨rfl, hb9⟩
    go_wp2
    go_ret
    exact ⟨rfl, bel_trans HB8.out hb9⟩
end Go.Proofs.YtdcanjfdgfpdfaaDoor.V
