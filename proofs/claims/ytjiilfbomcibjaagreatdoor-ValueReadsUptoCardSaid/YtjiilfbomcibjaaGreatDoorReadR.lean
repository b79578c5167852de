/- Contracts of the reference's Read at any text. -/
import Derived.Test.YtjiilfbomcibjaaGreatDoorPrint
import Derived.Test.YtjiilfbomcibjaaGreatDoorLit2
import Derived.LoopTactic
import Derived.Deep.LoopGhost
import Derived.BigGuard
namespace Go.Proofs.YtjiilfbomcibjaaGreatDoor.V
open Go.ChangeShapes Go.WideShapes Go.ChangeAt Go.RowKit Go.Proofs.YtjiilfbomcibjaaGreatDoor.L
theorem list_head (s : ByteArray) (h : 0 < s.size) : s.data.toList = s[0] :: s.data.toList.drop 1 := by
  have := drop_cons s 0 h
  simpa using this
theorem ext_list (s : ByteArray) : (s.extract 1 s.size).data.toList = s.data.toList.drop 1 := by
  rw [ByteArray.data_extract, Array.toList_extract, List.extract_eq_take_drop]
  exact List.take_of_length_le (by simp)
theorem nil_list (s : ByteArray) (h : s.data.toList = []) : s.toList.isEmpty = true := by rw [ByteArray.toList_eq, h]; rfl
theorem ne_list (s : ByteArray) (h : 0 < s.size) : s.toList.isEmpty = false ∧ ¬ s.toList = [] := by
  rw [ByteArray.toList_eq, list_head s h]; exact ⟨rfl, by simp⟩
theorem dig_minus (s : ByteArray) (h : 0 < s.size) (h45 : (s[0].toNat : Int) = 45) : T.sgn s.data.toList = true ∧ T.dig s.data.toList = s.data.toList.drop 1 := by
  have e : s[0] = 45 := UInt8.toNat_inj.1 (by show s[0].toNat = 45; omega)
  have hs : T.sgn s.data.toList = true := by rw [list_head s h, T.sgn_head, e]; rfl
  exact ⟨hs, by rw [T.dig, hs]; rfl⟩
theorem dig_plain (s : ByteArray) (h : 0 < s.size) (h45 : ¬ (s[0].toNat : Int) = 45) : T.sgn s.data.toList = false ∧ T.dig s.data.toList = s.data.toList := by
  have hs : T.sgn s.data.toList = false := by
    rw [list_head s h, T.sgn_head, beq_eq_false_iff_ne]
    exact fun e => h45 (by rw [e]; rfl)
  exact ⟨hs, by rw [T.dig, hs]; rfl⟩
theorem num_empty {l : List UInt8} (h : T.dig l = []) : T.isNum l = false := by unfold T.isNum; rw [h]; rfl
theorem num_lead {l : List UInt8} (h : (T.dig l).head? = some 48) (h2 : T.sgn l = true ∨ T.dig l ≠ [48]) : T.isNum l = false := by
  unfold T.isNum
  split
  · rename_i e
    rcases h2 with h2 | h2
    · rw [h2]; rfl
    · exact absurd e h2
  · rw [h]; simp
theorem num_all {l : List UInt8} (h0 : T.dig l ≠ []) (h : (T.dig l).head? ≠ some 48 ∨ (T.sgn l = false ∧ T.dig l = [48])) : T.isNum l = (T.dig l).all fun c => decide (48 ≤ c.toNat ∧ c.toNat ≤ 57) := by
  unfold T.isNum
  split
  · rename_i e
    rcases h with h | h
    · rw [e] at h; exact absurd rfl h
    · rw [h.1, e]; rfl
  · rcases h with h | h
    · rw [List.isEmpty_eq_false_iff.2 h0, show ((T.dig l).head? != some 48) = true by simpa using h]; rfl
    · rename_i e; exact absurd h.2 e
theorem all_no (d : ByteArray) (k : Nat) (h : k < d.size) (hc : ¬ (48 ≤ d[k].toNat ∧ d[k].toNat ≤ 57)) : (d.data.toList.all fun c => decide (48 ≤ c.toNat ∧ c.toNat ≤ 57)) = false := by
  rw [List.all_eq_false]
  exact ⟨d[k], by
    have : d[k] = d.data.toList[k]'(by simpa using h) := rfl
    rw [this]; exact List.getElem_mem _, by simpa using hc⟩
theorem all_yes (d : ByteArray) (h : ∀ c ∈ d.data.toList.take d.size, 48 ≤ c.toNat ∧ c.toNat ≤ 57) : (d.data.toList.all fun c => decide (48 ≤ c.toNat ∧ c.toNat ≤ 57)) = true := by
  rw [List.take_of_length_le (by simp)] at h
  rw [List.all_eq_true]
  exact fun c hc => decide_eq_true (h c hc)
theorem digs_next (d : ByteArray) (k : Nat) (h : k < d.size) (hd : T.digs (d.data.toList.take k)) (hc : 48 ≤ d[k].toNat ∧ d[k].toNat ≤ 57) : T.digs (d.data.toList.take (k + 1)) := by
  rw [take_next d k h]
  intro c hx
  rcases List.mem_append.1 hx with hx | hx
  · exact hd c hx
  · rw [List.mem_singleton] at hx
    subst hx
    exact hc
theorem isNumber_nil (w : World) : Calls Tryz.prog 58 #[.string ⟨#[]⟩] w fun e w' => e = .returned (.bool false) ∧ Below w.heap.size w w' := by
  go_enter Tryz.func58, Tryz.ntmps58
  go_wp2_with fail
  go_ret
  exact ⟨rfl, Below.refl _ _⟩
theorem isNumber_bare (s : ByteArray) (hd : s.extract 1 s.size = ⟨#[]⟩) (hs : s.size ≤ 140737488351232) (h : 0 < s.size) (h45 : (s[0].toNat : Int) = 45) (w : World) : Calls Tryz.prog 58 #[.string s] w fun e w' => e = .returned (.bool false) ∧ Below w.heap.size w w' := by
  have e1 := (ne_list s h).1
  have e3 : ((s[0].toNat : Int) == 45) = true := by simpa using h45
  go_enter Tryz.func58, Tryz.ntmps58
  go_wp2_with fail
  go_ret
  exact ⟨rfl, Below.refl _ _⟩
theorem isNumber_mlead (s d : ByteArray) (hd : s.extract 1 s.size = d) (hs : s.size ≤ 140737488351232) (h : 0 < s.size) (h45 : (s[0].toNat : Int) = 45) (hz : d.size = s.size - 1) (h1 : 0 < d.size) (h48 : (d[0].toNat : Int) = 48)
    (e5 : (s.toList == [48]) = false) (w : World) : Calls Tryz.prog 58 #[.string s] w fun e w' => e = .returned (.bool false) ∧ Below w.heap.size w w' := by
  have e1 := (ne_list s h).1
  have e2 := (ne_list d h1).1
  have e3 : ((s[0].toNat : Int) == 45) = true := by simpa using h45
  have e4 : ((d[0].toNat : Int) == 48) = true := by simpa using h48
  go_enter Tryz.func58, Tryz.ntmps58
  go_wp2_with fail
  go_ret
  exact ⟨rfl, Below.refl _ _⟩
theorem isNumber_lead (s : ByteArray) (h : 0 < s.size) (h48 : (s[0].toNat : Int) = 48)
    (e5 : (s.toList == [48]) = false) (w : World) : Calls Tryz.prog 58 #[.string s] w fun e w' => e = .returned (.bool false) ∧ Below w.heap.size w w' := by
  have e1 := (ne_list s h).1
  have e3 : ((s[0].toNat : Int) == 45) = false := by simp; omega
  have e4 : ((s[0].toNat : Int) == 48) = true := by simpa using h48
  go_enter Tryz.func58, Tryz.ntmps58
  go_wp2_with fail
  go_ret
  exact ⟨rfl, Below.refl _ _⟩
set_option maxRecDepth 20000 in
theorem isNumber_minus (s d : ByteArray) (hd : s.extract 1 s.size = d) (hs : s.size ≤ 140737488351232) (h : 0 < s.size) (h45 : (s[0].toNat : Int) = 45) (hz : d.size = s.size - 1) (h1 : 0 < d.size) (h48 : ¬ (d[0].toNat : Int) = 48)
    (b : Bool) (hbs : b = d.data.toList.all fun c => decide (48 ≤ c.toNat ∧ c.toNat ≤ 57)) (w : World) : Calls Tryz.prog 58 #[.string s] w fun e w' => e = .returned (.bool b) ∧ Below w.heap.size w w' := by
  have e1 := (ne_list s h).1
  have e2 := (ne_list d h1).1
  have e3 : ((s[0].toNat : Int) == 45) = true := by simpa using h45
  have e4 : ((d[0].toNat : Int) == 48) = false := by simpa using h48
  go_enter Tryz.func58, Tryz.ntmps58
  go_wp2_with fail
  clear hd h45 h48 e1 e2 e3 e4 h
  go_loopw [4] (fun i wr => ∃ k : Nat, k ≤ d.size ∧ i = .int .i64 k ∧ wr = w ∧ T.digs (d.data.toList.take k)) (fun i _ => d.size - (intOf i).toNat)
  case atStart => exact ⟨0, by omega, rfl, rfl, by intro c hc; simp at hc⟩
  case round =>
    obtain ⟨k, hk, rfl, rfl, hD⟩ := hrel
    have HD := Lib.hid hD
    have HB := Lib.hid hbs
    clear hD hbs
    by_cases hk' : k < d.size
    · by_cases c1 : (d[k].toNat : Int) < 48
      · have hb := Lib.hid (HB.out.trans (all_no d k hk' (by omega)))
        have c2 : decide ((d[k].toNat : Int) < 48) = true := by simpa using c1
        go_wp2
        go_ret
        exact ⟨ret_bool hb.out.symm, Below.refl _ _⟩
      · have c2 : decide ((d[k].toNat : Int) < 48) = false := by simpa using c1
        by_cases c3 : (57 : Int) < d[k].toNat
        · have hb := Lib.hid (HB.out.trans (all_no d k hk' (by omega)))
          have c4 : decide ((57 : Int) < d[k].toNat) = true := by simpa using c3
          go_wp2
          go_ret
          exact ⟨ret_bool hb.out.symm, Below.refl _ _⟩
        · have c4 : decide ((57 : Int) < d[k].toNat) = false := by simpa using c3
          have hn := Lib.hid (digs_next d k hk' HD.out (by omega))
          go_wp2
          go_roundw
          case rel => exact ⟨k + 1, by omega, by go_num, (by first | trivial | rfl), hn.out⟩
          case measure => simp [intOf]; omega
    · obtain rfl : k = d.size := by omega
      have hb := Lib.hid (HB.out.trans (all_yes d HD.out))
      go_wp2
      go_ret
      exact ⟨ret_bool hb.out.symm, Below.refl _ _⟩
set_option maxRecDepth 20000 in
theorem isNumber_plain (d : ByteArray) (hs : d.size ≤ 140737488351232) (h : 0 < d.size) (h45 : ¬ (d[0].toNat : Int) = 45) (h48 : ¬ (d[0].toNat : Int) = 48)
    (b : Bool) (hbs : b = d.data.toList.all fun c => decide (48 ≤ c.toNat ∧ c.toNat ≤ 57)) (w : World) : Calls Tryz.prog 58 #[.string d] w fun e w' => e = .returned (.bool b) ∧ Below w.heap.size w w' := by
  have e1 := (ne_list d h).1
  have e3 : ((d[0].toNat : Int) == 45) = false := by simpa using h45
  have e4 : ((d[0].toNat : Int) == 48) = false := by simpa using h48
  go_enter Tryz.func58, Tryz.ntmps58
  go_wp2_with fail
  clear h45 h48 e1 e3 e4
  go_loopw [4] (fun i wr => ∃ k : Nat, k ≤ d.size ∧ i = .int .i64 k ∧ wr = w ∧ T.digs (d.data.toList.take k)) (fun i _ => d.size - (intOf i).toNat)
  case atStart => exact ⟨0, by omega, rfl, rfl, by intro c hc; simp at hc⟩
  case round =>
    obtain ⟨k, hk, rfl, rfl, hD⟩ := hrel
    have HD := Lib.hid hD
    have HB := Lib.hid hbs
    clear hD hbs
    by_cases hk' : k < d.size
    · by_cases c1 : (d[k].toNat : Int) < 48
      · have hb := Lib.hid (HB.out.trans (all_no d k hk' (by omega)))
        have c2 : decide ((d[k].toNat : Int) < 48) = true := by simpa using c1
        go_wp2
        go_ret
        exact ⟨ret_bool hb.out.symm, Below.refl _ _⟩
      · have c2 : decide ((d[k].toNat : Int) < 48) = false := by simpa using c1
        by_cases c3 : (57 : Int) < d[k].toNat
        · have hb := Lib.hid (HB.out.trans (all_no d k hk' (by omega)))
          have c4 : decide ((57 : Int) < d[k].toNat) = true := by simpa using c3
          go_wp2
          go_ret
          exact ⟨ret_bool hb.out.symm, Below.refl _ _⟩
        · have c4 : decide ((57 : Int) < d[k].toNat) = false := by simpa using c3
          have hn := Lib.hid (digs_next d k hk' HD.out (by omega))
          go_wp2
          go_roundw
          case rel => exact ⟨k + 1, by omega, by go_num, (by first | trivial | rfl), hn.out⟩
          case measure => simp [intOf]; omega
    · obtain rfl : k = d.size := by omega
      have hb := Lib.hid (HB.out.trans (all_yes d HD.out))
      go_wp2
      go_ret
      exact ⟨ret_bool hb.out.symm, Below.refl _ _⟩
theorem isNumber_zero (w : World) : Calls Tryz.prog 58 #[.string ⟨#[48]⟩] w fun e w' => e = .returned (.bool true) ∧ Below w.heap.size w w' := by
  go_enter Tryz.func58, Tryz.ntmps58
  go_wp2_with fail
  go_loopw [4] (fun i wr => ∃ k : Nat, k ≤ 1 ∧ i = .int .i64 k ∧ wr = w) (fun i _ => 1 - (intOf i).toNat)
  case atStart => exact ⟨0, by omega, rfl, rfl⟩
  case round =>
    obtain ⟨k, hk, rfl, rfl⟩ := hrel
    by_cases hk' : k < 1
    · obtain rfl : k = 0 := by omega
      go_wp2
      go_roundw
      case rel => exact ⟨1, by omega, by go_num, (by first | trivial | rfl)⟩
      case measure => simp [intOf]
    · obtain rfl : k = 1 := by omega
      go_wp2
      go_ret
      exact ⟨rfl, Below.refl _ _⟩
theorem r_isNumber (s : ByteArray) (hs : s.size ≤ 140737488351232) (w : World) : Calls Tryz.prog 58 #[.string s] w fun e w' => e = .returned (.bool (T.isNum s.data.toList)) ∧ Below w.heap.size w w' := by
  by_cases h0 : s.size = 0
  · have e : s = ⟨#[]⟩ := bytes_inj (List.eq_nil_of_length_eq_zero (by simpa using h0))
    subst e
    exact isNumber_nil w
  have h : 0 < s.size := by omega
  have hl := list_head s h
  by_cases h45 : (s[0].toNat : Int) = 45
  · obtain ⟨g1, g2⟩ := dig_minus s h h45
    obtain ⟨d, hd⟩ : ∃ d, s.extract 1 s.size = d := ⟨_, rfl⟩
    have hdl : d.data.toList = T.dig s.data.toList := by rw [← hd, ext_list, g2]
    have hz : d.size = s.size - 1 := by rw [← hd, ByteArray.size_extract]; omega
    by_cases h1 : d.size = 0
    · have e : d = ⟨#[]⟩ := bytes_inj (List.eq_nil_of_length_eq_zero (by simpa using h1))
      subst e
      rw [num_empty (by rw [← hdl])]
      exact isNumber_bare s hd hs h h45 w
    have h1 : 0 < d.size := by omega
    have hdh := list_head d h1
    by_cases h48 : (d[0].toNat : Int) = 48
    · have e48 : d[0] = 48 := UInt8.toNat_inj.1 (by show d[0].toNat = 48; omega)
      rw [num_lead (by rw [← hdl, hdh, e48]; rfl) (.inl g1)]
      refine isNumber_mlead s d hd hs h h45 hz h1 h48 ?_ w
      rw [ByteArray.toList_eq, beq_eq_false_iff_ne, hl]
      intro e
      obtain ⟨e, -⟩ := List.cons.inj e
      rw [e] at h45
      exact absurd h45 (by decide)
    · refine isNumber_minus s d hd hs h h45 hz h1 h48 _ ?_ w
      rw [hdl]
      refine num_all (by rw [← hdl, hdh]; simp) (.inl ?_)
      rw [← hdl, hdh]
      intro e
      have e := Option.some.inj e
      exact h48 (by rw [e]; rfl)
  · obtain ⟨g1, g2⟩ := dig_plain s h h45
    by_cases h48 : (s[0].toNat : Int) = 48
    · have e48 : s[0] = 48 := UInt8.toNat_inj.1 (by show s[0].toNat = 48; omega)
      by_cases hx : s.data.toList = [48]
      · have e : s = ⟨#[48]⟩ := bytes_inj hx
        subst e
        exact isNumber_zero w
      · rw [num_lead (by rw [g2, hl, e48]; rfl) (.inr (by rw [g2]; exact hx))]
        exact isNumber_lead s h h48 (by rw [ByteArray.toList_eq]; simpa using hx) w
    · refine isNumber_plain s hs h h45 h48 _ ?_ w
      have := num_all (l := s.data.toList) (by rw [g2, hl]; simp) (.inl (by
        rw [g2, hl]
        intro e
        have e := Option.some.inj e
        exact h48 (by rw [e]; rfl)))
      rw [g2] at this
      exact this
end Go.Proofs.YtjiilfbomcibjaaGreatDoor.V
