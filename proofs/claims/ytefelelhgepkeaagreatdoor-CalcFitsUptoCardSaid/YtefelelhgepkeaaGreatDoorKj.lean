/- Loops over kinds: their common kind, whether all agree, whether one is none. -/
import Derived.Test.YtefelelhgepkeaaGreatDoorKh
namespace Go.Proofs.YtefelelhgepkeaaGreatDoor.K
open Go.ChangeShapes Go.WideShapes Go.ChangeAt Go.RowKit Go.Proofs.YtefelelhgepkeaaGreatDoor.V
def comV : Option Int → Value
  | some k => .tuple #[.int .u8 k, .bool true]
  | none => .tuple #[.int .u8 0, .bool false]
theorem com_drop {l : List Int} {k : Nat} {x : Int} (h : l[k]? = some x) (o : Int) : com o (l.drop k) = if agree o x then com (if o = 0 then x else o) (l.drop (k + 1)) else none := by
  rw [List.drop_eq_getElem_cons (List.getElem?_eq_some_iff.1 h).1, com, (List.getElem?_eq_some_iff.1 h).2]
theorem com_end {l : List Int} {k : Nat} (h : l.length ≤ k) (o : Int) : com o (l.drop k) = some o := by rw [List.drop_eq_nil_of_le h]; rfl
theorem ret_com {r r' : Option Int} (h : r = r') : Ending.returned (comV r) = .returned (comV r') := by rw [h]
set_option maxHeartbeats 1000000 in
theorem c_common (o0 : Int) (a : Option Addr) (n c : Nat) (l : List Int) (hn : n ≤ 9223372036854775807) (w : World) (h : One kI w a n l) : Ret 38 #[.int .u8 o0, .slice a n c] w (comV (com o0 l)) := by
  have HL := Lib.hid h
  clear h
  go_enter Tryz.func38, Tryz.ntmps38
  go_wp2
  go_loopw [0, 10] (fun s0 s10 wr => ∃ (k : Nat) (o : Int), k ≤ n ∧ s0 = .int .u8 o ∧ s10 = .int .i64 k ∧ Hid (com o (l.drop k) = com o0 l) ∧ Hid (Below w.heap.size w wr)) (fun _ s10 _ => n - (intOf s10).toNat)
  case atStart => exact ⟨0, o0, by omega, rfl, rfl, rfl, Below.refl _ _⟩
  case round =>
    obtain ⟨k, o, hk, rfl, rfl, HI, HB⟩ := hrel
    by_cases hlt : k < n
    · obtain ⟨g, p, x, rfl, hlk, hg, c0⟩ := (HL.out.below HB.out).at_ k hlt
      have HI2 := Lib.hid ((com_drop hlk o).symm.trans HI.out)
      clear HI hlk
      by_cases h0 : o = 0
      · subst h0
        have HI3 : Hid (com x (l.drop (k + 1)) = com o0 l) := by
          have e := HI2.out
          rw [if_pos (by rw [agree_iff]; omega), if_pos rfl] at e
          exact e
        have e1 : (x != x) = false := by simp
        clear HI2
        go_wp2
        all_goals
          refine ⟨⟨k + 1, _, by omega, rfl, by go_num, ?_, HB.out⟩, by simp [intOf]; omega⟩
          first | exact HI3.out | (have hx0 : x = 0 := by assumption
                                   have := HI3.out; rw [hx0] at this; exact this)
      · have e0 : (o == 0) = false := by simpa using h0
        by_cases hx : x = 0 ∨ x = o
        · have HI3 : Hid (com o (l.drop (k + 1)) = com o0 l) := by
            have e := HI2.out
            rw [if_pos (by rw [agree_iff]; omega), if_neg h0] at e
            exact e
          have e1 : (x != 0 && x != o) = false := by rcases hx with rfl | rfl <;> simp
          clear HI2
          rcases hx with rfl | rfl
          · go_wp2
            all_goals exact ⟨⟨k + 1, o, by omega, rfl, by go_num, HI3.out, HB.out⟩, by simp [intOf]; omega⟩
          · have e2 : (x != x) = false := by simp
            go_wp2
            all_goals exact ⟨⟨k + 1, x, by omega, rfl, by go_num, HI3.out, HB.out⟩, by simp [intOf]; omega⟩
        · have HI3 : Hid (none = com o0 l) := by
            have e := HI2.out
            rw [if_neg (by rw [agree_iff]; omega)] at e
            exact e
          have e1 : (x != 0) = true := by simp; omega
          have e2 : (x != o) = true := by simp; omega
          clear HI2 hx h0
          go_wp2
          go_ret2
          exact ⟨ret_com (r := none) HI3.out, HB.out⟩
    · have he : com o0 l = some o := by rw [← HI.out, com_end (by have := HL.out.len; omega)]
      have HE := Lib.hid he
      clear he HI
      go_wp2
      go_ret2
      exact ⟨ret_com (r := some o) HE.out.symm, HB.out⟩
set_option maxHeartbeats 1000000 in
theorem r_Common (a : Option Addr) (n c : Nat) (l : List Int) (hn : n ≤ 9223372036854775807) (w : World) (h : One kI w a n l) : Ret 71 #[.slice a n c] w (comV (com 0 l)) := by
  have HL := Lib.hid h
  clear h
  go_enter Tryz.func71, Tryz.ntmps71
  go_wp2
  go_loopw [4, 5] (fun s0 s10 wr => ∃ (k : Nat) (o : Int), k ≤ n ∧ s0 = .int .u8 o ∧ s10 = .int .i64 k ∧ Hid (com o (l.drop k) = com 0 l) ∧ Hid (Below w.heap.size w wr)) (fun _ s10 _ => n - (intOf s10).toNat)
  case atStart => exact ⟨0, 0, by omega, rfl, rfl, rfl, Below.refl _ _⟩
  case round =>
    obtain ⟨k, o, hk, rfl, rfl, HI, HB⟩ := hrel
    by_cases hlt : k < n
    · obtain ⟨g, p, x, rfl, hlk, hg, c0⟩ := (HL.out.below HB.out).at_ k hlt
      have HI2 := Lib.hid ((com_drop hlk o).symm.trans HI.out)
      clear HI hlk
      cases ha : agree o x with
      | true =>
        have HA := Lib.hid ha
        rw [ha, if_pos rfl] at HI2
        clear ha
        go_wp2_with fail
        refine (r_Agree _ _ _).mono ?_
        rintro e w1 ⟨rfl, hb1⟩
        rw [HA.out]
        have HB1 := Lib.hid (bel_trans HB.out hb1)
        have c1 := ((bcell hb1).1 _ _ hg).trans c0
        by_cases h0 : o = 0
        · subst h0
          rw [if_pos rfl] at HI2
          clear hb1
          go_wp2
          all_goals exact ⟨⟨k + 1, x, by omega, rfl, by go_num, HI2.out, HB1.out⟩, by simp [intOf]; omega⟩
        · rw [if_neg h0] at HI2
          have e0 : (o == 0) = false := by simpa using h0
          clear hb1
          go_wp2
          all_goals exact ⟨⟨k + 1, o, by omega, rfl, by go_num, HI2.out, HB1.out⟩, by simp [intOf]; omega⟩
      | false =>
        have HA := Lib.hid ha
        rw [ha, if_neg (by simp)] at HI2
        clear ha
        go_wp2_with fail
        refine (r_Agree _ _ _).mono ?_
        rintro e w1 ⟨rfl, hb1⟩
        rw [HA.out]
        have HB1 := Lib.hid (bel_trans HB.out hb1)
        clear hb1
        go_wp2
        go_ret2
        exact ⟨ret_com (r := none) HI2.out, HB1.out⟩
    · have he : com 0 l = some o := by rw [← HI.out, com_end (by have := HL.out.len; omega)]
      have HE := Lib.hid he
      clear he HI
      go_wp2
      go_ret2
      exact ⟨ret_com (r := some o) HE.out.symm, HB.out⟩
theorem all_drop {l : List Int} {k : Nat} {x : Int} (h : l[k]? = some x) (z : Int) : allAg (l.drop k) z = (agree x z && allAg (l.drop (k + 1)) z) := by
  rw [List.drop_eq_getElem_cons (List.getElem?_eq_some_iff.1 h).1, allAg, List.all_cons, (List.getElem?_eq_some_iff.1 h).2]; rfl
theorem all_end {l : List Int} {k : Nat} (h : l.length ≤ k) (z : Int) : allAg (l.drop k) z = true := by rw [List.drop_eq_nil_of_le h]; rfl
set_option maxHeartbeats 1000000 in
theorem r_allAgree (z : Int) (a : Option Addr) (n c : Nat) (l : List Int) (hn : n ≤ 9223372036854775807) (w : World) (h : One kI w a n l) : Ret 69 #[.slice a n c, .int .u8 z] w (.bool (allAg l z)) := by
  have HL := Lib.hid h
  clear h
  go_enter Tryz.func69, Tryz.ntmps69
  go_wp2
  go_loopw [5] (fun s5 wr => ∃ (k : Nat), k ≤ n ∧ s5 = .int .i64 k ∧ Hid (allAg (l.drop k) z = allAg l z) ∧ Hid (Below w.heap.size w wr)) (fun s5 _ => n - (intOf s5).toNat)
  case atStart => exact ⟨0, by omega, rfl, rfl, Below.refl _ _⟩
  case round =>
    obtain ⟨k, hk, rfl, HI, HB⟩ := hrel
    by_cases hlt : k < n
    · obtain ⟨g, p, x, rfl, hlk, hg, c0⟩ := (HL.out.below HB.out).at_ k hlt
      have HI2 := Lib.hid ((all_drop hlk z).symm.trans HI.out)
      clear HI hlk
      cases ha : agree x z with
      | true =>
        have HA := Lib.hid ha
        rw [ha, Bool.true_and] at HI2
        clear ha
        go_wp2_with fail
        refine (r_Agree _ _ _).mono ?_
        rintro e w1 ⟨rfl, hb1⟩
        rw [HA.out]
        have HB1 := Lib.hid (bel_trans HB.out hb1)
        clear hb1
        go_wp2
        exact ⟨⟨k + 1, by omega, by go_num, HI2.out, HB1.out⟩, by simp [intOf]; omega⟩
      | false =>
        have HA := Lib.hid ha
        rw [ha, Bool.false_and] at HI2
        clear ha
        go_wp2_with fail
        refine (r_Agree _ _ _).mono ?_
        rintro e w1 ⟨rfl, hb1⟩
        rw [HA.out]
        have HB1 := Lib.hid (bel_trans HB.out hb1)
        clear hb1
        go_wp2
        go_ret
        exact ⟨ret_bool HI2.out, HB1.out⟩
    · have he : allAg l z = true := by rw [← HI.out, all_end (by have := HL.out.len; omega)]
      have HE := Lib.hid he
      clear he HI
      go_wp2
      go_ret
      exact ⟨ret_bool HE.out.symm, HB.out⟩
set_option maxHeartbeats 1000000 in
theorem l_IndexKind (F : Nat) (ca : Array Value) (HE : EntersF F) (p : Int → Bool) (a : Option Addr) (n c : Nat) (l : List Int) (hn : n ≤ 9223372036854775807) (w : World) (h : One kI w a n l)
    (hF : ∀ o ∈ l, ∀ w', Below w.heap.size w w' → Ret F (#[kI o] ++ ca) w' (.bool (p o))) : Ret 72 #[.slice a n c, .func (.func F) #[] ca] w (.int .i64 (idx p l 0)) := by
  have HL := Lib.hid h
  have HP := Lib.hid hF
  clear h hF
  go_enter Tryz.func72, Tryz.ntmps72
  go_wp2
  go_loopw [8] (fun s8 wr => ∃ (k : Nat), k ≤ n ∧ s8 = .int .i64 k ∧ Hid (idx p (l.drop k) k = idx p l 0) ∧ Hid (Below w.heap.size w wr)) (fun s8 _ => n - (intOf s8).toNat)
  case atStart => exact ⟨0, by omega, rfl, rfl, Below.refl _ _⟩
  case round =>
    obtain ⟨k, hk, rfl, HI, HB⟩ := hrel
    by_cases hlt : k < n
    · obtain ⟨g, q, o, rfl, hlk, hg, c0⟩ := (HL.out.below HB.out).at_ k hlt
      have HI2 := Lib.hid ((idx_drop hlk k).symm.trans HI.out)
      have hx := HP.out o (List.mem_of_getElem? hlk)
      clear HI hlk
      go_wp2_with fail
      refine (hx _ HB.out).mono ?_
      rintro e w1 ⟨rfl, hb1⟩
      have HB1 := Lib.hid (bel_trans HB.out hb1)
      clear hb1 hx
      cases hp : p o with
      | true =>
        rw [hp, if_pos rfl] at HI2
        clear hp
        go_wp2
        go_ret
        exact ⟨ret_int HI2.out, HB1.out⟩
      | false =>
        rw [hp, if_neg (by simp)] at HI2
        clear hp
        go_wp2
        refine ⟨⟨k + 1, by omega, by go_num, HI2.out, HB1.out⟩, by simp [intOf]; omega⟩
    · have he : idx p l 0 = -1 := by rw [← HI.out, idx_end (by have := HL.out.len; omega)]
      have HE := Lib.hid he
      clear he HI
      go_wp2
      go_ret
      exact ⟨ret_int HE.out.symm, HB.out⟩
theorem c_isNone (k : Int) (w : World) : Ret 35 #[.int .u8 k] w (.bool (decide (k > 3))) := by
  go_enter Tryz.func35, Tryz.ntmps35
  go_wp2
  all_goals (go_ret; exact ⟨ret_bool (by first | rfl | simp_all), by repeat (first | exact Below.refl _ _ | assumption | (refine bel_trans ?_ (by assumption)) | (with_reducible apply bel_alloc) | (with_reducible apply Below.drew) | apply bel_alloc | apply Below.drew | refine bel_set ?_ (by simp; try omega) _)⟩)
theorem l_ContainsKind (a : Option Addr) (n c : Nat) (l : List Int) (hn : n ≤ 9223372036854775807) (w : World) (h : One kI w a n l) : Ret 36 #[.slice a n c, .func (.func 35) #[] #[]] w (.bool (l.any (fun k => decide (k > 3)))) := by
  have HI := Lib.hid (idx_any (p := fun k : Int => decide (k > 3)) l 0)
  go_enter Tryz.func36, Tryz.ntmps36
  go_wp2_with fail
  refine (l_IndexKind 35 #[] (fun _ _ => by kernel_rfl) _ a n c l hn _ h (fun o _ w' _ => c_isNone o w')).mono ?_; rintro e w1 ⟨rfl, hbw1⟩; obtain ⟨hcw1, hfw1⟩ := bcell hbw1; have hzw1 := hbw1.size; (try simp [World.drew] at hzw1)
  go_wp2
  go_ret
  exact ⟨ret_bool HI.out, by repeat (first | exact Below.refl _ _ | assumption | (refine bel_trans ?_ (by assumption)) | (with_reducible apply bel_alloc) | (with_reducible apply Below.drew) | apply bel_alloc | apply Below.drew | refine bel_set ?_ (by simp; try omega) _)⟩
end Go.Proofs.YtefelelhgepkeaaGreatDoor.K
