/- The program's Kind. -/
import Derived.Test.YtefelelhgepkeaaGreatDoorKn
import Derived.Test.YtefelelhgepkeaaGreatDoorKi
namespace Go.Proofs.YtefelelhgepkeaaGreatDoor.K
open Go.ChangeShapes Go.WideShapes Go.ChangeAt Go.RowKit Go.Proofs.YtefelelhgepkeaaGreatDoor.V
def kV (p : Int × Int) : Value := .tuple #[.int .u8 p.1, .int .i64 p.2]
theorem ret_k {k e : Int} {p : Int × Int} (h : (k, e) = p) : Ending.returned (.tuple #[.int .u8 k, .int .i64 e]) = .returned (kV p) := by rw [← h]; rfl
theorem one_nil (w : World) : One kI w none 0 [] := ⟨rfl, fun _ h => absurd h (Nat.not_lt_zero _)⟩
/-- What Kind says once the number of kids and their kinds are in order. -/
def kindQ (op : Int) (l : List Int) : Int × Int :=
  match com 3 (if op = 25 then (parts l).1 else []), com (sg op).2.2.1 (if op = 25 then (parts l).2 else l) with
    | some _, some k => (if (sg op).2.2.2 ≠ 0 then (sg op).2.2.2 else k, 0)
    | _, _ => (0, 50)
theorem kindP_no {op : Int} {l : List Int} (h : (!has op || decide ((l.length : Int) < (sg op).1) || decide ((l.length : Int) > (sg op).2.1) || l.any (fun k => decide (k > 3))) = true) : kindP op l = (0, 1) := by unfold kindP; rw [if_pos h]
theorem kindP_yes {op : Int} {l : List Int} (h : (!has op || decide ((l.length : Int) < (sg op).1) || decide ((l.length : Int) > (sg op).2.1) || l.any (fun k => decide (k > 3))) = false) : kindP op l = kindQ op l := by unfold kindP; rw [if_neg (by rw [h]; simp)]; rfl

set_option maxRecDepth 100000 in
set_option maxHeartbeats 2000000 in
theorem c_Kind_case (a : Option Addr) (n c : Nat) (l : List Int) (hnc : n ≤ c) (hc : c ≤ 9223372036854775807) (hsz : n ≤ 140737488351232) (w : World) (h : One kI w a n l) : Ret 12 #[.int .u8 25, .slice a n c] w (kV (kindP 25 l)) := by
  have HL := Lib.hid h
  have hnl := Lib.hid h.len
  have HN := Lib.hid (kindP_no (op := 25) (l := l))
  have HY := Lib.hid (kindP_yes (op := 25) (l := l))
  have hQ : Hid (kindQ 25 l = match com 3 (parts l).1, com (sg 25).2.2.1 (parts l).2 with | some _, some k => (if (sg 25).2.2.2 ≠ 0 then (sg 25).2.2.2 else k, 0) | _, _ => (0, 50)) := by
    show _ = _
    unfold kindQ
    rw [if_pos rfl, if_pos rfl]
  have hsig : Hid (∀ w, Ret 34 #[.int .u8 25] w (.tuple #[.agg #[.int .i64 (sg 25).1, .int .i64 (sg 25).2.1, .int .u8 (sg 25).2.2.1, .int .u8 (sg 25).2.2.2], .bool (has 25)])) := fun w => c_sig 25 w
  clear h
  generalize (sg 25).1 = f1 at *
  generalize (sg 25).2.1 = f2 at *
  generalize (sg 25).2.2.1 = f3 at *
  generalize (sg 25).2.2.2 = f4 at *
  generalize has 25 = hs at *
  generalize kindP 25 l = R at *
  generalize kindQ 25 l = R2 at *
  go_enter Tryz.func12, Tryz.ntmps12
  go_wp2_with fail
  refine (hsig.out _).mono ?_
  rintro e w1 ⟨rfl, hb1⟩
  have HB1 := Lib.hid hb1
  clear hb1
  cases hs with
  | false =>
    go_wp2
    go_ret2
    exact ⟨ret_k (HN.out (by simp)).symm, by repeat (first | exact Below.refl _ _ | assumption | (refine bel_trans ?_ (by assumption)) | (with_reducible apply bel_alloc) | (with_reducible apply Below.drew) | apply bel_alloc | apply Below.drew | refine bel_set ?_ (by simp; try omega) _)⟩
  | true =>
    cases h1 : decide ((n : Int) < f1) with
    | true =>
      have h1' := of_decide_eq_true h1
      go_wp2
      go_ret2
      exact ⟨ret_k (HN.out (by rw [← hnl.out, h1]; simp)).symm, by repeat (first | exact Below.refl _ _ | assumption | (refine bel_trans ?_ (by assumption)) | (with_reducible apply bel_alloc) | (with_reducible apply Below.drew) | apply bel_alloc | apply Below.drew | refine bel_set ?_ (by simp; try omega) _)⟩
    | false =>
      have h1' := of_decide_eq_false h1
      cases h2 : decide ((n : Int) > f2) with
      | true =>
        have h2' := of_decide_eq_true h2
        have h2'' : f2 < (n : Int) := h2'
        go_wp2
        go_ret2
        exact ⟨ret_k (HN.out (by rw [← hnl.out, h1, h2]; simp)).symm, by repeat (first | exact Below.refl _ _ | assumption | (refine bel_trans ?_ (by assumption)) | (with_reducible apply bel_alloc) | (with_reducible apply Below.drew) | apply bel_alloc | apply Below.drew | refine bel_set ?_ (by simp; try omega) _)⟩
      | false =>
        have h2' := of_decide_eq_false h2
        have h2'' : ¬ f2 < (n : Int) := h2'
        go_wp2_with fail
        refine (l_ContainsKind a n c l (by omega) _ (HL.out.below (bel_alloc HB1.out _))).mono ?_
        rintro e w2 ⟨rfl, hb2⟩
        obtain ⟨hc2, hf2⟩ := bcell hb2
        have hz2 := hb2.size
        simp at hz2
        have hk2 : w1.heap.size < w2.heap.size := hz2
        have HB2 : Hid (Below w.heap.size w w2) := bel_trans (bel_alloc HB1.out _) hb2
        cases h3 : l.any (fun k => decide (k > 3)) with
        | true =>
          go_wp2
          go_ret2
          exact ⟨ret_k (HN.out (by rw [h3]; simp)).symm, HB2.out⟩
        | false =>
          have HR : Hid (R = R2) := HY.out (by rw [← hnl.out, h1, h2, h3]; rfl)
          clear HN HY h3
          go_wp2_with fail
          refine (c_partCase a n c l hnc hc hsz _ (HL.out.below HB2.out)).mono ?_
          rintro e w3 ⟨⟨u2, u3, rfl, ⟨a2, n2, cc2, rfl, hn2, HK2⟩, ⟨a3, n3, cc3, rfl, hn3, HK3⟩⟩, hb3⟩
          obtain ⟨hc3, hf3⟩ := bcell hb3
          have hk3 : w1.heap.size < w3.heap.size := Nat.lt_of_lt_of_le hk2 hb3.size
          have HB3 : Hid (Below w.heap.size w w3) := bel_trans HB2.out hb3
          have HKK2 := Lib.hid HK2
          have HKK3 := Lib.hid HK3
          clear hb3 HK2 HK3
          go_wp2_with fail
          refine (c_common 3 _ _ _ (parts l).1 hn2 _ HKK2.out).mono ?_
          rintro e w4 ⟨rfl, hb4⟩
          obtain ⟨hc4, hf4⟩ := bcell hb4
          have hk4 : w1.heap.size < w4.heap.size := Nat.lt_of_lt_of_le hk3 hb4.size
          have HB4 : Hid (Below w.heap.size w w4) := bel_trans HB3.out hb4
          have HKK4 := Lib.hid (HKK3.out.below hb4)
          clear hb4
          obtain ⟨q4, hq4⟩ : ∃ q, com 3 (parts l).1 = q := ⟨_, rfl⟩
          rw [hq4] at hQ ⊢
          cases q4 with
          | none =>
            simp only [comV]
            go_wp2_with fail
            refine (c_common f3 _ _ _ (parts l).2 hn3 _ HKK4.out).mono ?_
            rintro e w5 ⟨rfl, hb5⟩
            have HB5 : Hid (Below w.heap.size w w5) := bel_trans HB4.out hb5
            cases com f3 (parts l).2 <;> simp only [comV] at hQ ⊢ <;> go_wp2 <;> go_ret2 <;> exact ⟨ret_k ((HR.out.trans hQ.out).symm), HB5.out⟩
          | some z4 =>
            simp only [comV]
            go_wp2_with fail
            refine (c_common f3 _ _ _ (parts l).2 hn3 _ HKK4.out).mono ?_
            rintro e w5 ⟨rfl, hb5⟩
            obtain ⟨hc5, hf5⟩ := bcell hb5
            have hk5 : w1.heap.size < w5.heap.size := Nat.lt_of_lt_of_le hk4 hb5.size
            have HB5 : Hid (Below w.heap.size w w5) := bel_trans HB4.out hb5
            clear hb5
            cases hq5 : com f3 (parts l).2 with
            | none =>
              simp only [hq5, comV] at hQ ⊢
              go_wp2
              go_ret2
              exact ⟨ret_k ((HR.out.trans hQ.out).symm), HB5.out⟩
            | some z5 =>
              simp only [hq5, comV] at hQ ⊢
              by_cases h4 : f4 = 0
              · have h4' : (f4 != 0) = false := by simpa using h4
                rw [if_neg (by simpa using h4)] at hQ
                go_wp2
                go_ret2
                exact ⟨ret_k ((HR.out.trans hQ.out).symm), HB5.out⟩
              · have h4' : (f4 != 0) = true := by simpa using h4
                rw [if_pos h4] at hQ
                go_wp2
                go_ret2
                exact ⟨ret_k ((HR.out.trans hQ.out).symm), HB5.out⟩
set_option maxRecDepth 100000 in
set_option maxHeartbeats 2000000 in
theorem c_Kind_other (op : Int) (hop : (op == 25) = false) (a : Option Addr) (n c : Nat) (l : List Int) (hnc : n ≤ c) (hc : c ≤ 9223372036854775807) (hsz : n ≤ 140737488351232) (w : World) (h : One kI w a n l) : Ret 12 #[.int .u8 op, .slice a n c] w (kV (kindP op l)) := by
  have HL := Lib.hid h
  have hnl := Lib.hid h.len
  have HN := Lib.hid (kindP_no (op := op) (l := l))
  have HY := Lib.hid (kindP_yes (op := op) (l := l))
  have hQ : Hid (kindQ op l = match com 3 [], com (sg op).2.2.1 l with | some _, some k => (if (sg op).2.2.2 ≠ 0 then (sg op).2.2.2 else k, 0) | _, _ => (0, 50)) := by
    show _ = _
    unfold kindQ
    rw [if_neg (by simpa using hop), if_neg (by simpa using hop)]
  have hsig : Hid (∀ w, Ret 34 #[.int .u8 op] w (.tuple #[.agg #[.int .i64 (sg op).1, .int .i64 (sg op).2.1, .int .u8 (sg op).2.2.1, .int .u8 (sg op).2.2.2], .bool (has op)])) := fun w => c_sig op w
  clear h
  generalize (sg op).1 = f1 at *
  generalize (sg op).2.1 = f2 at *
  generalize (sg op).2.2.1 = f3 at *
  generalize (sg op).2.2.2 = f4 at *
  generalize has op = hs at *
  generalize kindP op l = R at *
  generalize kindQ op l = R2 at *
  go_enter Tryz.func12, Tryz.ntmps12
  go_wp2_with fail
  refine (hsig.out _).mono ?_
  rintro e w1 ⟨rfl, hb1⟩
  have HB1 := Lib.hid hb1
  clear hb1
  cases hs with
  | false =>
    go_wp2
    go_ret2
    exact ⟨ret_k (HN.out (by simp)).symm, by repeat (first | exact Below.refl _ _ | assumption | (refine bel_trans ?_ (by assumption)) | (with_reducible apply bel_alloc) | (with_reducible apply Below.drew) | apply bel_alloc | apply Below.drew | refine bel_set ?_ (by simp; try omega) _)⟩
  | true =>
    cases h1 : decide ((n : Int) < f1) with
    | true =>
      have h1' := of_decide_eq_true h1
      go_wp2
      go_ret2
      exact ⟨ret_k (HN.out (by rw [← hnl.out, h1]; simp)).symm, by repeat (first | exact Below.refl _ _ | assumption | (refine bel_trans ?_ (by assumption)) | (with_reducible apply bel_alloc) | (with_reducible apply Below.drew) | apply bel_alloc | apply Below.drew | refine bel_set ?_ (by simp; try omega) _)⟩
    | false =>
      have h1' := of_decide_eq_false h1
      cases h2 : decide ((n : Int) > f2) with
      | true =>
        have h2' := of_decide_eq_true h2
        have h2'' : f2 < (n : Int) := h2'
        go_wp2
        go_ret2
        exact ⟨ret_k (HN.out (by rw [← hnl.out, h1, h2]; simp)).symm, by repeat (first | exact Below.refl _ _ | assumption | (refine bel_trans ?_ (by assumption)) | (with_reducible apply bel_alloc) | (with_reducible apply Below.drew) | apply bel_alloc | apply Below.drew | refine bel_set ?_ (by simp; try omega) _)⟩
      | false =>
        have h2' := of_decide_eq_false h2
        have h2'' : ¬ f2 < (n : Int) := h2'
        go_wp2_with fail
        refine (l_ContainsKind a n c l (by omega) _ (HL.out.below (bel_alloc HB1.out _))).mono ?_
        rintro e w2 ⟨rfl, hb2⟩
        obtain ⟨hc2, hf2⟩ := bcell hb2
        have hz2 := hb2.size
        simp at hz2
        have hk2 : w1.heap.size < w2.heap.size := hz2
        have HB2 : Hid (Below w.heap.size w w2) := bel_trans (bel_alloc HB1.out _) hb2
        cases h3 : l.any (fun k => decide (k > 3)) with
        | true =>
          go_wp2
          go_ret2
          exact ⟨ret_k (HN.out (by rw [h3]; simp)).symm, HB2.out⟩
        | false =>
          have HR : Hid (R = R2) := HY.out (by rw [← hnl.out, h1, h2, h3]; rfl)
          clear HN HY h3
          have HB3 := HB2
          have hk3 := hk2
          have HKK2 := Lib.hid (one_nil w2)
          have HKK3 := Lib.hid (HL.out.below HB2.out)
          have hn2 : (0 : Nat) ≤ 9223372036854775807 := by omega
          have hn3 : n ≤ 9223372036854775807 := by omega
          go_wp2_with fail
          refine (c_common 3 _ _ _ ([] : List Int) hn2 _ HKK2.out).mono ?_
          rintro e w4 ⟨rfl, hb4⟩
          obtain ⟨hc4, hf4⟩ := bcell hb4
          have hk4 : w1.heap.size < w4.heap.size := Nat.lt_of_lt_of_le hk3 hb4.size
          have HB4 : Hid (Below w.heap.size w w4) := bel_trans HB3.out hb4
          have HKK4 := Lib.hid (HKK3.out.below hb4)
          clear hb4
          obtain ⟨q4, hq4⟩ : ∃ q, com 3 ([] : List Int) = q := ⟨_, rfl⟩
          rw [hq4] at hQ ⊢
          cases q4 with
          | none =>
            simp only [comV]
            go_wp2_with fail
            refine (c_common f3 _ _ _ l hn3 _ HKK4.out).mono ?_
            rintro e w5 ⟨rfl, hb5⟩
            have HB5 : Hid (Below w.heap.size w w5) := bel_trans HB4.out hb5
            cases com f3 l <;> simp only [comV] at hQ ⊢ <;> go_wp2 <;> go_ret2 <;> exact ⟨ret_k ((HR.out.trans hQ.out).symm), HB5.out⟩
          | some z4 =>
            simp only [comV]
            go_wp2_with fail
            refine (c_common f3 _ _ _ l hn3 _ HKK4.out).mono ?_
            rintro e w5 ⟨rfl, hb5⟩
            obtain ⟨hc5, hf5⟩ := bcell hb5
            have hk5 : w1.heap.size < w5.heap.size := Nat.lt_of_lt_of_le hk4 hb5.size
            have HB5 : Hid (Below w.heap.size w w5) := bel_trans HB4.out hb5
            clear hb5
            cases hq5 : com f3 l with
            | none =>
              simp only [hq5, comV] at hQ ⊢
              go_wp2
              go_ret2
              exact ⟨ret_k ((HR.out.trans hQ.out).symm), HB5.out⟩
            | some z5 =>
              simp only [hq5, comV] at hQ ⊢
              by_cases h4 : f4 = 0
              · have h4' : (f4 != 0) = false := by simpa using h4
                rw [if_neg (by simpa using h4)] at hQ
                go_wp2
                go_ret2
                exact ⟨ret_k ((HR.out.trans hQ.out).symm), HB5.out⟩
              · have h4' : (f4 != 0) = true := by simpa using h4
                rw [if_pos h4] at hQ
                go_wp2
                go_ret2
                exact ⟨ret_k ((HR.out.trans hQ.out).symm), HB5.out⟩
theorem c_Kind (op : Int) (a : Option Addr) (n c : Nat) (l : List Int) (hnc : n ≤ c) (hc : c ≤ 9223372036854775807) (hsz : n ≤ 140737488351232) (w : World) (h : One kI w a n l) : Ret 12 #[.int .u8 op, .slice a n c] w (kV (kind op l)) := by
  have e : kindP op l = kind op l := kindP_is (by have := h.len; omega)
  rw [← e]
  by_cases ho : op = 25
  · subst ho
    exact c_Kind_case a n c l hnc hc hsz w h
  · exact c_Kind_other op (by simpa using ho) a n c l hnc hc hsz w h
end Go.Proofs.YtefelelhgepkeaaGreatDoor.K
