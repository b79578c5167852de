/- The program's Kind. -/
import Derived.Test.YtdbhencjomnjhaaGreatDoorGad
import Derived.Test.YtdbhencjomnjhaaGreatDoorGac
import Derived.Test.YtdbhencjomnjhaaGreatDoorGaa
import Derived.Deep.OwnRows
import Derived.Test.YtdbhencjomnjhaaGreatDoorGab
namespace Go.Proofs.YtdbhencjomnjhaaGreatDoor.K
open Go.ChangeShapes Go.WideShapes Go.ChangeAt Go.RowKit Go.Proofs.YtdbhencjomnjhaaGreatDoor.V
def kV (p : Int × Int) : Value := .tuple #[.int .u8 p.1, .int .i64 p.2]
theorem ret_k {k e : Int} {p : Int × Int} (h : (k, e) = p) : Ending.returned (.tuple #[.int .u8 k, .int .i64 e]) = .returned (kV p) := by rw [← h]; rfl
theorem one_nil (w : World) : One kI w none 0 [] := ⟨rfl, fun _ h => absurd h (Nat.not_lt_zero _)⟩
/-- What Kind says once the number of kids and their kinds are in order. -/
def kindQ (op : Int) (l : List Int) : Int × Int :=
  match com 3 (if op = 25 then (parts l).1 else []), com (sg op).2.2.1 (if op = 25 then (parts l).2 else l) with
    | some _, some k => (if (sg op).2.2.2 ≠ 0 then (sg op).2.2.2 else k, 0)
    | _, _ => (0, 50)
theorem kindP_no {op : Int} {l : List Int} (h : (!has op || decide ((l.length : Int) < (sg op).1) || decide ((l.length : Int) > (sg op).2.1) || l.any (fun k => decide (k > 3))) = true) : kindP op l = (0, 1) := by unfold kindP; rw [if_pos h]
theorem kindP_yes {op : Int} {l : List Int} (h : (!has op || decide ((l.length : Int) < (sg op).1) || decide ((l.length : Int) > (sg op).2.1) || l.any (fun k => decide (k > 3))) = false) : kindP op l = kindQ op l := by unfold kindP; rw [if_neg (by rw [h]; simp)]; rfl

set_option maxRecDepth 100000 in
set_option maxHeartbeats 2000000 in
theorem c_Kind_case (a : Option Addr) (n c : Nat) (l : List Int) (hnc : n ≤ c) (hc : c ≤ 9223372036854775807) (hsz : n ≤ 140737488351232) (w : World) (h : One kI w a n l) : Ret 7 #[.int .u8 25, .slice a n c] w (kV (kindP 25 l)) := by
  have HL := Lib.hid h
  have hnl := Lib.hid h.len
  have HN := Lib.hid (kindP_no (op := 25) (l := l))
  have HY := Lib.hid (kindP_yes (op := 25) (l := l))
  have hQ : Hid (kindQ 25 l = match com 3 (parts l).1, com (sg 25).2.2.1 (parts l).2 with | some _, some k => (if (sg 25).2.2.2 ≠ 0 then (sg 25).2.2.2 else k, 0) | _, _ => (0, 50)) := by
    show _ = _
    unfold kindQ
    rw [if_pos rfl, if_pos rfl]
  have hsig : Hid (∀ w, Ret 22 #[.int .u8 25] w (.tuple #[.agg #[.int .i64 (sg 25).1, .int .i64 (sg 25).2.1, .int .u8 (sg 25).2.2.1, .int .u8 (sg 25).2.2.2], .bool (has 25)])) := fun w => c_sig 25 w
  clear h
  generalize (sg 25).1 = f1 at *
  generalize (sg 25).2.1 = f2 at *
  generalize (sg 25).2.2.1 = f3 at *
  generalize (sg 25).2.2.2 = f4 at *
  generalize has 25 = hs at *
  generalize kindP 25 l = R at *
  generalize kindQ 25 l = R2 at *
  go_enter Tryz.func7, Tryz.ntmps7
  go_wp2_with fail
  refine (hsig.out _).mono ?_
  rintro e w1 ⟨rfl, hb1⟩
  have HB1 := Lib.hid hb1
  clear hb1
  cases hs with
  | false =>
    go_wp2
    go_ret2
    exact ⟨ret_k (HN.out (by simp)).symm, by repeat (first | exact Below.refl _ _ | assumption | (refine bel_trans ?_ (by assumption)) | (with_reducible apply bel_alloc) | (with_reducible apply Below.drew) | apply bel_alloc | apply Below.drew | refine bel_set ?_ (by simp; try omega) _)⟩
  | true =>
    cases h1 : decide ((n : Int) < f1) with
    | true =>
      have h1' := of_decide_eq_true h1
      go_wp2
      go_ret2
      exact ⟨ret_k (HN.out (by rw [← hnl.out, h1]; simp)).symm, by repeat (first | exact Below.refl _ _ | assumption | (refine bel_trans ?_ (by assumption)) | (with_reducible apply bel_alloc) | (with_reducible apply Below.drew) | apply bel_alloc | apply Below.drew | refine bel_set ?_ (by simp; try omega) _)⟩
    | false =>
      have h1' := of_decide_eq_false h1
      cases h2 : decide ((n : Int) > f2) with
      | true =>
        have h2' := of_decide_eq_true h2
        have h2'' : f2 < (n : Int) := h2'
        go_wp2
        go_ret2
        exact ⟨ret_k (HN.out (by rw [← hnl.out, h1, h2]; simp)).symm, by repeat (first | exact Below.refl _ _ | assumption | (refine bel_trans ?_ (by assumption)) | (with_reducible apply bel_alloc) | (with_reducible apply Below.drew) | apply bel_alloc | apply Below.drew | refine bel_set ?_ (by simp; try omega) _)⟩
      | false =>
        have h2' := of_decide_eq_false h2
        have h2'' : ¬ f2 < (n : Int) := h2'
        go_wp2_with fail
        refine (l_ContainsKind a n c l (by omega) _ (HL.out.below (bel_alloc HB1.out _))).mono ?_
        rintro e w2 ⟨rfl, hb2⟩
        obtain ⟨hc2, hf2⟩ := bcell hb2
        have hz2 := hb2.size
        simp at hz2
        have hk2 : w1.heap.size < w2.heap.size := hz2
        have HB2 : Hid (Below w.heap.size w w2) := bel_trans (bel_alloc HB1.out _) hb2
        cases h3 : l.any (fun k => decide (k > 3)) with
        | true =>
          go_wp2
          go_ret2
          exact ⟨ret_k (HN.out (by rw [h3]; simp)).symm, HB2.out⟩
        | false =>
          have HR : Hid (R = R2) := HY.out (by rw [← hnl.out, h1, h2, h3]; rfl)
          clear HN HY h3
          go_wp2_with fail
          refine (c_partCase a n c l hnc hc hsz _ (HL.out.below HB2.out)).mono ?_
          rintro e w3 ⟨⟨u2, u3, rfl, ⟨a2, n2, cc2, rfl, hn2, HK2⟩, ⟨a3, n3, cc3, rfl, hn3, HK3⟩⟩, hb3⟩
          obtain ⟨hc3, hf3⟩ := bcell hb3
          have hk3 : w1.heap.size < w3.heap.size := Nat.lt_of_lt_of_le hk2 hb3.size
          have HB3 : Hid (Below w.heap.size w w3) := bel_trans HB2.out hb3
          have HKK2 := Lib.hid HK2
          have HKK3 := Lib.hid HK3
          clear hb3 HK2 HK3
          go_wp2_with fail
          refine (c_common 3 _ _ _ (parts l).1 hn2 _ HKK2.out).mono ?_
          rintro e w4 ⟨rfl, hb4⟩
          obtain ⟨hc4, hf4⟩ := bcell hb4
          have hk4 : w1.heap.size < w4.heap.size := Nat.lt_of_lt_of_le hk3 hb4.size
          have HB4 : Hid (Below w.heap.size w w4) := bel_trans HB3.out hb4
          have HKK4 := Lib.hid (HKK3.out.below hb4)
          clear hb4
          obtain ⟨q4, hq4⟩ : ∃ q, com 3 (parts l).1 = q := ⟨_, rfl⟩
          rw [hq4] at hQ ⊢
          cases q4 with
          | none =>
            simp only [comV]
            go_wp2_with fail
            refine (c_common f3 _ _ _ (parts l).2 hn3 _ HKK4.out).mono ?_
            rintro e w5 ⟨rfl, hb5⟩
            have HB5 : Hid (Below w.heap.size w w5) := bel_trans HB4.out hb5
            cases com f3 (parts l).2 <;> simp only [comV] at hQ ⊢ <;> go_wp2 <;> go_ret2 <;> exact ⟨ret_k ((HR.out.trans hQ.out).symm), HB5.out⟩
          | some z4 =>
            simp only [comV]
            go_wp2_with fail
            refine (c_common f3 _ _ _ (parts l).2 hn3 _ HKK4.out).mono ?_
            rintro e w5 ⟨rfl, hb5⟩
            obtain ⟨hc5, hf5⟩ := bcell hb5
            have hk5 : w1.heap.size < w5.heap.size := Nat.lt_of_lt_of_le hk4 hb5.size
            have HB5 : Hid (Below w.heap.size w w5) := bel_trans HB4.out hb5
            clear hb5
            cases hq5 : com f3 (parts l).2 with
            | none =>
              simp only [hq5, comV] at hQ ⊢
              go_wp2
              go_ret2
              exact ⟨ret_k ((HR.out.trans hQ.out).symm), HB5.out⟩
            | some z5 =>
              simp only [hq5, comV] at hQ ⊢
              by_cases h4 : f4 = 0
              · have h4' : (f4 != 0) = false := by simpa using h4
                rw [if_neg (by simpa using h4)] at hQ
                go_wp2
                go_ret2
                exact ⟨ret_k ((HR.out.trans hQ.out).symm), HB5.out⟩
              · have h4' : (f4 != 0) = true := by simpa using h4
                rw [if_pos h4] at hQ
                go_wp2
                go_ret2
                exact ⟨ret_k ((HR.out.trans hQ.out).symm), HB5.out⟩
set_option maxRecDepth 100000 in
set_option maxHeartbeats 2000000 in
theorem c_Kind_other (op : Int) (hop : (op == 25) = false) (a : Option Addr) (n c : Nat) (l : List Int) (hnc : n ≤ c) (hc : c ≤ 9223372036854775807) (hsz : n ≤ 140737488351232) (w : World) (h : One kI w a n l) : Ret 7 #[.int .u8 op, .slice a n c] w (kV (kindP op l)) := by
  have HL := Lib.hid h
  have hnl := Lib.hid h.len
  have HN := Lib.hid (kindP_no (op := op) (l := l))
  have HY := Lib.hid (kindP_yes (op := op) (l := l))
  have hQ : Hid (kindQ op l = match com 3 [], com (sg op).2.2.1 l with | some _, some k => (if (sg op).2.2.2 ≠ 0 then (sg op).2.2.2 else k, 0) | _, _ => (0, 50)) := by
    show _ = _
    unfold kindQ
    rw [if_neg (by simpa using hop), if_neg (by simpa using hop)]
  have hsig : Hid (∀ w, Ret 22 #[.int .u8 op] w (.tuple #[.agg #[.int .i64 (sg op).1, .int .i64 (sg op).2.1, .int .u8 (sg op).2.2.1, .int .u8 (sg op).2.2.2], .bool (has op)])) := fun w => c_sig op w
  clear h
  generalize (sg op).1 = f1 at *
  generalize (sg op).2.1 = f2 at *
  generalize (sg op).2.2.1 = f3 at *
  generalize (sg op).2.2.2 = f4 at *
  generalize has op = hs at *
  generalize kindP op l = R at *
  generalize kindQ op l = R2 at *
  go_enter Tryz.func7, Tryz.ntmps7
  go_wp2_with fail
  refine (hsig.out _).mono ?_
  rintro e w1 ⟨rfl, hb1⟩
  have HB1 := Lib.hid hb1
  clear hb1
  cases hs with
  | false =>
    go_wp2
    go_ret2
    exact ⟨ret_k (HN.out (by simp)).symm, by repeat (first | exact Below.refl _ _ | assumption | (refine bel_trans ?_ (by assumption)) | (with_reducible apply bel_alloc) | (with_reducible apply Below.drew) | apply bel_alloc | apply Below.drew | refine bel_set ?_ (by simp; try omega) _)⟩
  | true =>
    cases h1 : decide ((n : Int) < f1) with
    | true =>
      have h1' := of_decide_eq_true h1
      go_wp2
      go_ret2
      exact ⟨ret_k (HN.out (by rw [← hnl.out, h1]; simp)).symm, by repeat (first | exact Below.refl _ _ | assumption | (refine bel_trans ?_ (by assumption)) | (with_reducible apply bel_alloc) | (with_reducible apply Below.drew) | apply bel_alloc | apply Below.drew | refine bel_set ?_ (by simp; try omega) _)⟩
    | false =>
      have h1' := of_decide_eq_false h1
      cases h2 : decide ((n : Int) > f2) with
      | true =>
        have h2' := of_decide_eq_true h2
        have h2'' : f2 < (n : Int) := h2'
        go_wp2
        go_ret2
        exact ⟨ret_k (HN.out (by rw [← hnl.out, h1, h2]; simp)).symm, by repeat (first | exact Below.refl _ _ | assumption | (refine bel_trans ?_ (by assumption)) | (with_reducible apply bel_alloc) | (with_reducible apply Below.drew) | apply bel_alloc | apply Below.drew | refine bel_set ?_ (by simp; try omega) _)⟩
      | false =>
        have h2' := of_decide_eq_false h2
        have h2'' : ¬ f2 < (n : Int) := h2'
        go_wp2_with fail
        refine (l_ContainsKind a n c l (by omega) _ (HL.out.below (bel_alloc HB1.out _))).mono ?_
        rintro e w2 ⟨rfl, hb2⟩
        obtain ⟨hc2, hf2⟩ := bcell hb2
        have hz2 := hb2.size
        simp at hz2
        have hk2 : w1.heap.size < w2.heap.size := hz2
        have HB2 : Hid (Below w.heap.size w w2) := bel_trans (bel_alloc HB1.out _) hb2
        cases h3 : l.any (fun k => decide (k > 3)) with
        | true =>
          go_wp2
          go_ret2
          exact ⟨ret_k (HN.out (by rw [h3]; simp)).symm, HB2.out⟩
        | false =>
          have HR : Hid (R = R2) := HY.out (by rw [← hnl.out, h1, h2, h3]; rfl)
          clear HN HY h3
          have HB3 := HB2
          have hk3 := hk2
          have HKK2 := Lib.hid (one_nil w2)
          have HKK3 := Lib.hid (HL.out.below HB2.out)
          have hn2 : (0 : Nat) ≤ 9223372036854775807 := by omega
          have hn3 : n ≤ 9223372036854775807 := by omega
          go_wp2_with fail
          refine (c_common 3 _ _ _ ([] : List Int) hn2 _ HKK2.out).mono ?_
          rintro e w4 ⟨rfl, hb4⟩
          obtain ⟨hc4, hf4⟩ := bcell hb4
          have hk4 : w1.heap.size < w4.heap.size := Nat.lt_of_lt_of_le hk3 hb4.size
          have HB4 : Hid (Below w.heap.size w w4) := bel_trans HB3.out hb4
          have HKK4 := Lib.hid (HKK3.out.below hb4)
          clear hb4
          obtain ⟨q4, hq4⟩ : ∃ q, com 3 ([] : List Int) = q := ⟨_, rfl⟩
          rw [hq4] at hQ ⊢
          cases q4 with
          | none =>
            simp only [comV]
            go_wp2_with fail
            refine (c_common f3 _ _ _ l hn3 _ HKK4.out).mono ?_
            rintro e w5 ⟨rfl, hb5⟩
            have HB5 : Hid (Below w.heap.size w w5) := bel_trans HB4.out hb5
            cases com f3 l <;> simp only [comV] at hQ ⊢ <;> go_wp2 <;> go_ret2 <;> exact ⟨ret_k ((HR.out.trans hQ.out).symm), HB5.out⟩
          | some z4 =>
            simp only [comV]
            go_wp2_with fail
            refine (c_common f3 _ _ _ l hn3 _ HKK4.out).mono ?_
            rintro e w5 ⟨rfl, hb5⟩
            obtain ⟨hc5, hf5⟩ := bcell hb5
            have hk5 : w1.heap.size < w5.heap.size := Nat.lt_of_lt_of_le hk4 hb5.size
            have HB5 : Hid (Below w.heap.size w w5) := bel_trans HB4.out hb5
            clear hb5
            cases hq5 : com f3 l with
            | none =>
              simp only [hq5, comV] at hQ ⊢
              go_wp2
              go_ret2
              exact ⟨ret_k ((HR.out.trans hQ.out).symm), HB5.out⟩
            | some z5 =>
              simp only [hq5, comV] at hQ ⊢
              by_cases h4 : f4 = 0
              · have h4' : (f4 != 0) = false := by simpa using h4
                rw [if_neg (by simpa using h4)] at hQ
                go_wp2
                go_ret2
                exact ⟨ret_k ((HR.out.trans hQ.out).symm), HB5.out⟩
              · have h4' : (f4 != 0) = true := by simpa using h4
                rw [if_pos h4] at hQ
                go_wp2
                go_ret2
                exact ⟨ret_k ((HR.out.trans hQ.out).symm), HB5.out⟩
theorem c_Kind (op : Int) (a : Option Addr) (n c : Nat) (l : List Int) (hnc : n ≤ c) (hc : c ≤ 9223372036854775807) (hsz : n ≤ 140737488351232) (w : World) (h : One kI w a n l) : Ret 7 #[.int .u8 op, .slice a n c] w (kV (kind op l)) := by
  have e : kindP op l = kind op l := kindP_is (by have := h.len; omega)
  rw [← e]
  by_cases ho : op = 25
  · subst ho
    exact c_Kind_case a n c l hnc hc hsz w h
  · exact c_Kind_other op (by simpa using ho) a n c l hnc hc hsz w h
end Go.Proofs.YtdbhencjomnjhaaGreatDoor.K
namespace Go.Proofs.YtdbhencjomnjhaaGreatDoor.K
open Go.ChangeShapes Go.WideShapes Go.ChangeAt Go.RowKit Go.Proofs.YtdbhencjomnjhaaGreatDoor.V
theorem l_cmpE (a b : Int) (w : World) : Calls Tryz.prog 34 #[.int .i64 a, .int .i64 b] w fun e w' => e = .returned (.int .i64 (cmpI a b)) ∧ w = w' := by
  go_enter Tryz.func34, Tryz.ntmps34
  go_wp2
  all_goals (go_ret; exact ⟨ret_int (by unfold cmpI; omega), rfl⟩)
theorem l_cmpN (a b : Int) (w : World) : Calls Tryz.prog 32 #[.int .i64 a, .int .i64 b] w fun e w' => e = .returned (.int .i64 (cmpI a b)) ∧ w = w' := by
  go_enter Tryz.func32, Tryz.ntmps32
  go_wp2
  all_goals (go_ret; exact ⟨ret_int (by unfold cmpI; omega), rfl⟩)
/-- The place of a condition in AND's chain. -/
def pl (o : Ot) : Int := if o.e ≠ 0 then 2 else if o.k = 0 then 1 else if o.n = 0 then 0 else 3
theorem c_place (o : Ot) (h : tr o = true) (w : World) : Ret 33 #[enc o] w (.int .i64 (pl o)) := by
  rcases tr_cases h with rfl | rfl | rfl | ⟨e, he, rfl⟩
  · exact c_place_n w
  · exact c_place_t w
  · exact c_place_f w
  · have : e ≠ 0 := by have := err_cases he; omega
    have hp : pl (fl e) = 2 := by simp [pl, this]
    rw [hp]
    exact c_place_e e (by simpa using this) w
theorem pl_rk {o f : Ot} (ho : tr o = true) (hf : tr f = true) : decide (orI (cmpI (pl o) (pl f)) (cmpI o.e f.e) < 0) = decide (rk false o < rk false f) := by
  rw [decide_eq_decide]
  rcases tr_cases ho with rfl | rfl | rfl | ⟨e, he, rfl⟩ <;> rcases tr_cases hf with rfl | rfl | rfl | ⟨e', he', rfl⟩
  all_goals (try have h1 := err_cases he)
  all_goals (try have h2 := err_cases he')
  all_goals (try (have h3 : e ≠ 0 := by omega))
  all_goals (try (have h4 : e' ≠ 0 := by omega))
  all_goals simp [pl, rk, orI, cmpI, *]
  all_goals (try omega)
/-- A box holds this out, and may be written. -/
structure Box (W : World) (b : Nat) (o : Ot) : Prop where
  lt : b < W.heap.size
  c0 : W.cell? ⟨b, 0, none⟩ = some (.int .u8 o.k)
  c1 : W.cell? ⟨b, 1, none⟩ = some (.int .i64 o.n)
  c2 : W.cell? ⟨b, 2, none⟩ = some (.string o.s)
  c3 : W.cell? ⟨b, 3, none⟩ = some (.int .i64 o.e)
  f0 : W.frozen? ⟨b, 0, none⟩ = false
  f1 : W.frozen? ⟨b, 1, none⟩ = false
  f2 : W.frozen? ⟨b, 2, none⟩ = false
  f3 : W.frozen? ⟨b, 3, none⟩ = false
theorem Box.below {W W' : World} {b : Nat} {o : Ot} (h : Box W b o) (hb : Below W.heap.size W W') : Box W' b o := by
  obtain ⟨h0, h1, h2, h3, h4, h5, h6, h7, h8⟩ := h
  exact ⟨Nat.lt_of_lt_of_le h0 hb.size, (hb.cell (p := ⟨b, _, none⟩) h0).trans h1, (hb.cell (p := ⟨b, _, none⟩) h0).trans h2, (hb.cell (p := ⟨b, _, none⟩) h0).trans h3, (hb.cell (p := ⟨b, _, none⟩) h0).trans h4,
    (hb.frozen (p := ⟨b, _, none⟩) h0).trans h5, (hb.frozen (p := ⟨b, _, none⟩) h0).trans h6, (hb.frozen (p := ⟨b, _, none⟩) h0).trans h7, (hb.frozen (p := ⟨b, _, none⟩) h0).trans h8⟩
theorem Box.new (W : World) (o : Ot) : Box (box W o.k o.n o.s o.e) W.heap.size o := by
  constructor <;> simp [go_sem]
theorem Box.alloc {W : World} {b : Nat} {o : Ot} (h : Box W b o) (x : Obj) : Box (W.alloc x) b o := h.below ((Below.refl _ W).alloc (Nat.le_refl _) x)
/-- The box written anew. -/
abbrev put4 (W : World) (b : Nat) (o : Ot) : World := (((W.setCell ⟨b, 0, none⟩ (.int .u8 o.k)).setCell ⟨b, 1, none⟩ (.int .i64 o.n)).setCell ⟨b, 2, none⟩ (.string o.s)).setCell ⟨b, 3, none⟩ (.int .i64 o.e)
theorem Box.put {W : World} {b : Nat} {f : Ot} (h : Box W b f) (o : Ot) : Box (put4 W b o) b o := by
  obtain ⟨h0, h1, h2, h3, h4, h5, h6, h7, h8⟩ := h
  constructor <;> simp [go_sem, *]
theorem Box.other {W : World} {b b' : Nat} {f : Ot} (h : Box W b f) (o : Ot) (hne : b ≠ b') : Box (put4 W b' o) b f := by
  obtain ⟨h0, h1, h2, h3, h4, h5, h6, h7, h8⟩ := h
  have hne' : ¬ b' = b := fun e => hne e.symm
  constructor <;> simp [go_sem, *]
theorem put4_below {w W : World} (h : Below w.heap.size w W) {b : Nat} (hb : w.heap.size ≤ b) (o : Ot) : Below w.heap.size w (put4 W b o) := bel_set (bel_set (bel_set (bel_set h hb _) hb _) hb _) hb _
theorem andP_drop {l : List Ot} {k : Nat} {o : Ot} (h : l[k]? = some o) (f : Ot) : andP f (l.drop k) = andP (if rk false o < rk false f then o else f) (l.drop (k + 1)) := by
  rw [List.drop_eq_getElem_cons (List.getElem?_eq_some_iff.1 h).1, andP, (List.getElem?_eq_some_iff.1 h).2]
theorem andP_end {l : List Ot} {k : Nat} (h : l.length ≤ k) (f : Ot) : andP f (l.drop k) = f := by rw [List.drop_eq_nil_of_le h]; rfl
set_option maxRecDepth 100000 in
set_option maxHeartbeats 2000000 in
theorem c_and (a : Option Addr) (n c : Nat) (l : List Ot) (hn : n ≤ 9223372036854775807) (ht : l.all tr = true) (w : World) (h : Outs w a n l) : Ret 14 #[.slice a n c] w (enc (andP (bo true) l)) := by
  have HL := Lib.hid h
  have HT := Lib.hid ht
  clear h ht
  go_enter Tryz.func14, Tryz.ntmps14
  go_wp2_with fail
  refine (c_truth_t _).mono ?_; rintro e w1 ⟨rfl, hbw1⟩; obtain ⟨hcw1, hfw1⟩ := bcell hbw1; have hzw1 := hbw1.size; (try simp at hzw1); have hk0w1 : w.heap.size < w1.heap.size := (by omega)
  have HR : Hid (Box (box w1 3 1 ⟨#[]⟩ 0) w.heap.size nul) := ((Box.new w nul).below hbw1).alloc _
  have HF : Hid (Box (box w1 3 1 ⟨#[]⟩ 0) w1.heap.size (bo true)) := Box.new w1 (bo true)
  have HB : Hid (Below w.heap.size w (box w1 3 1 ⟨#[]⟩ 0)) := by repeat (first | exact Below.refl _ _ | assumption | exact Go.Proofs.YtdbhencjomnjhaaGreatDoor.V.below_drewN _ _ | (refine bel_trans ?_ (Go.Proofs.YtdbhencjomnjhaaGreatDoor.V.below_drewN _ _)) | (refine bel_trans ?_ (by assumption)) | (with_reducible apply bel_alloc) | (with_reducible apply Below.drew) | apply bel_alloc | apply Below.drew | refine bel_set ?_ (by simp; try omega) _)
  have hq : w.heap.size < w1.heap.size := hk0w1
  clear hcw1 hfw1 hzw1 hk0w1 hbw1
  go_wp2
  go_loopw [9] (fun s9 wr => ∃ (k : Nat) (f : Ot), k ≤ n ∧ s9 = .int .i64 k ∧ Hid (andP f (l.drop k) = andP (bo true) l) ∧ Hid (tr f = true) ∧ Hid (Box wr w.heap.size nul) ∧ Hid (Box wr w1.heap.size f) ∧ Hid (Below w.heap.size w wr)) (fun s9 _ => n - (intOf s9).toNat)
  case atStart => exact ⟨0, bo true, by omega, rfl, rfl, (show tr (bo true) = true by decide +kernel), HR.out, HF.out, HB.out⟩
  case round =>
    clear HR HF HB
    obtain ⟨k, f, hk, rfl, HI, HTf, HR, HF, HB⟩ := hrel
    by_cases hlt : k < n
    · obtain ⟨g, p, o, rfl, hlk, hg, c0, c1, c2, c3⟩ := (HL.out.below HB.out).at_ k hlt
      have HTo : Hid (tr o = true) := List.all_eq_true.1 HT.out o (List.mem_of_getElem? hlk)
      have HI2 := Lib.hid ((andP_drop hlk f).symm.trans HI.out)
      have HP := Lib.hid (pl_rk HTo.out HTf.out)
      obtain ⟨hq1, b0, b1, b2, b3, g0, g1, g2, g3⟩ := HF.out
      obtain ⟨hq2, d0, d1, d2, d3, e0, e1, e2, e3⟩ := HR.out
      clear HI hlk
      go_wp2
      have hq3 : wr.heap.size < (wr.alloc (.cells #[.int .u8 o.k, .int .i64 o.n, .string o.s, .int .i64 o.e] 31)).heap.size := by simp
      go_region_held3 (fun w' => w'.cell? ⟨wr.heap.size, 0, none⟩ = some (.int .u8 o.k) ∧ w'.cell? ⟨wr.heap.size, 1, none⟩ = some (.int .i64 o.n) ∧ w'.cell? ⟨wr.heap.size, 2, none⟩ = some (.string o.s) ∧ w'.cell? ⟨wr.heap.size, 3, none⟩ = some (.int .i64 o.e) ∧
          w'.cell? ⟨w1.heap.size, 0, none⟩ = some (.int .u8 f.k) ∧ w'.cell? ⟨w1.heap.size, 1, none⟩ = some (.int .i64 f.n) ∧ w'.cell? ⟨w1.heap.size, 2, none⟩ = some (.string f.s) ∧ w'.cell? ⟨w1.heap.size, 3, none⟩ = some (.int .i64 f.e)) (simp [*, go_sem, World.cell?_alloc_past])
        (first | (go_at_call 33; with_reducible (refine (c_place o HTo.out _).mono ?_); rintro e w2 ⟨rfl, hb2⟩; obtain ⟨hc2, hf2⟩ := bcell hb2; have hz2 := hb2.size; (try simp at hz2); have hk2 : wr.heap.size < w2.heap.size := (by omega); have hk2' : w1.heap.size < w2.heap.size := (by omega); clear hz2) | (go_at_call 33; with_reducible (refine (c_place f HTf.out _).mono ?_); rintro e w3 ⟨rfl, hb3⟩; obtain ⟨hc3, hf3⟩ := bcell hb3; have hz3 := hb3.size; (try simp at hz3); have hk3 : wr.heap.size < w3.heap.size := (by omega); have hk3' : w1.heap.size < w3.heap.size := (by omega); clear hz3) | (go_at_call 32; refine (l_cmpN _ _ _).mono ?_; rintro e w' ⟨rfl, rfl⟩) | (go_at_call 34; refine (l_cmpE _ _ _).mono ?_; rintro e w' ⟨rfl, rfl⟩) | (go_at_call 31; refine (l_or (cmpI (pl o) (pl f)) (cmpI o.e f.e) _ _ ?_ ?_).mono ?_; (simp [go_sem]); (simp [go_sem]); rintro e w4 ⟨rfl, hb4⟩; obtain ⟨hc4, hf4⟩ := bcell hb4; have hz4 := hb4.size; (try simp at hz4); have hk4 : wr.heap.size < w4.heap.size := (by omega); have hk4' : w1.heap.size < w4.heap.size := (by omega)))
      have B4 : Below wr.heap.size wr w4 := by repeat (first | exact Below.refl _ _ | assumption | exact Go.Proofs.YtdbhencjomnjhaaGreatDoor.V.below_drewN _ _ | (refine bel_trans ?_ (Go.Proofs.YtdbhencjomnjhaaGreatDoor.V.below_drewN _ _)) | (refine bel_trans ?_ (by assumption)) | (with_reducible apply bel_alloc) | (with_reducible apply Below.drew) | apply bel_alloc | apply Below.drew | refine bel_set ?_ (by simp; try omega) _)
      have HR4 := Lib.hid (HR.out.below B4)
      have HF4 := Lib.hid (HF.out.below B4)
      have HB4 : Hid (Below w.heap.size w w4) := bel_trans HB.out B4
      have HO4 : Hid (Box w4 wr.heap.size o) := by
        have h0 := Box.new wr o
        have h1 : Below (box wr o.k o.n o.s o.e).heap.size (box wr o.k o.n o.s o.e) w4 := by
          clear HB B4 HB4 HR4 HF4
          exact by repeat (first | exact Below.refl _ _ | assumption | exact Go.Proofs.YtdbhencjomnjhaaGreatDoor.V.below_drewN _ _ | (refine bel_trans ?_ (Go.Proofs.YtdbhencjomnjhaaGreatDoor.V.below_drewN _ _)) | (refine bel_trans ?_ (by assumption)) | (with_reducible apply bel_alloc) | (with_reducible apply Below.drew) | apply bel_alloc | apply Below.drew | refine bel_set ?_ (by simp; try omega) _)
        exact h0.below h1
      clear B4 hb2 hb3 hb4 hc2 hc3 hc4 hf2 hf3 hf4
      cases hr : decide (rk false o < rk false f) with
      | true =>
        have hd := HP.out.trans hr
        have hd2 := of_decide_eq_true hd
        rw [if_pos (of_decide_eq_true hr)] at HI2
        obtain ⟨hq1, b0, b1, b2, b3, g0, g1, g2, g3⟩ := HF4.out
        obtain ⟨hq2, d0, d1, d2, d3, e0, e1, e2, e3⟩ := HO4.out
        clear HP hr
        go_wp2
        exact ⟨⟨k + 1, o, by omega, by go_num, HI2.out, HTo.out, HR4.out.other o (by omega), HF4.out.put o, put4_below HB4.out (by omega) o⟩, by simp [intOf]; omega⟩
      | false =>
        have hd := HP.out.trans hr
        have hd2 := of_decide_eq_false hd
        rw [if_neg (of_decide_eq_false hr)] at HI2
        clear HP hr
        go_wp2
        exact ⟨⟨k + 1, f, by omega, by go_num, HI2.out, HTf.out, HR4.out, HF4.out, HB4.out⟩, by simp [intOf]; omega⟩
    · have he : andP (bo true) l = f := by rw [← HI.out, andP_end (by have := HL.out.len; omega)]
      have HE := Lib.hid he
      obtain ⟨hq1, b0, b1, b2, b3, g0, g1, g2, g3⟩ := HF.out
      obtain ⟨hq2, d0, d1, d2, d3, e0, e1, e2, e3⟩ := HR.out
      clear he HI
      go_wp2
      exact bodyPost_ret (v := ov f.k f.n f.s f.e) (by simp [results, Tryz.results14, go_sem, *]) rfl ⟨ret_v (by rw [HE.out]), put4_below HB.out (Nat.le_refl _) _⟩
end Go.Proofs.YtdbhencjomnjhaaGreatDoor.K
namespace Go.Proofs.YtdbhencjomnjhaaGreatDoor.K
open Go.ChangeShapes Go.WideShapes Go.ChangeAt Go.RowKit Go.Proofs.YtdbhencjomnjhaaGreatDoor.V
theorem infoKind2 : (Tryz.prog.info? 26).map (fun i => (i.zero, i.size, i.bytes)) = some (some (.int .u8 0), 1, 1) := by kernel_rfl
theorem infoOut : (Tryz.prog.info? 31).map (fun i => (i.zero, i.size, i.bytes)) = some (some (.agg #[.int .u8 0, .int .i64 0, .string ⟨#[]⟩, .int .i64 0]), 4, 40) := by kernel_rfl
def kfill (l : List Ot) (k : Nat) : Nat → Value := fun i => .int .u8 (if i < k then (l.getD i nul).k else 0)
set_option maxRecDepth 100000 in
set_option maxHeartbeats 2000000 in
theorem c_kindsOf (a : Option Addr) (n c : Nat) (l : List Ot) (hsz : n ≤ 140737488351232) (w : World) (h : Outs w a n l) :
    Calls Tryz.prog 11 #[.slice a n c] w fun e w' => (∃ a2, e = .returned (.slice a2 n n) ∧ One kI w' a2 n (l.map (·.k))) ∧ Below w.heap.size w w' := by
  have HL := Lib.hid h
  have hnl := Lib.hid h.len
  clear h
  have hmk := run_make_row' (P := Tryz.prog) 24 26 (.int .u8 0) 1 Tryz.underlying24 infoKind2 rfl .i64 .i64 n (by omega) (by omega)
  go_enter Tryz.func11, Tryz.ntmps11
  go_wp2
  go_loopw [11] (fun s11 wr => ∃ (k : Nat), k ≤ n ∧ s11 = .int .i64 k ∧ Hid (wr.rowIs w.heap.size 26 n (kfill l k)) ∧ Hid (Below w.heap.size w wr)) (fun s11 _ => n - (intOf s11).toNat)
  case atStart =>
    refine ⟨0, by omega, rfl, ?_, (Below.refl _ _).alloc (Nat.le_refl _) _⟩
    exact (World.rowIs_made w (.int .u8 0) n 26).congr fun i _ => rfl
  case round =>
    obtain ⟨k, hk, rfl, HR, HB⟩ := hrel
    by_cases hlt : k < n
    · obtain ⟨g, p, o, rfl, hlk, hg, c0, c1, c2, c3⟩ := (HL.out.below HB.out).at_ k hlt
      have d0 : wr.cell? ⟨w.heap.size, k, none⟩ = some (.int .u8 0) := by rw [HR.out.cell (by omega)]; unfold kfill; rw [if_neg (by omega)]
      have d1 : wr.frozen? ⟨w.heap.size, k, none⟩ = false := HR.out.frozen _
      have hlt2 := HR.out.lt
      have HR2 : Hid (((wr.setCell ⟨w.heap.size, k, none⟩ (.int .u8 o.k)).alloc (.cells #[.int .u8 o.k, .int .i64 o.n, .string o.s, .int .i64 o.e] 31)).rowIs w.heap.size 26 n (kfill l (k + 1))) := by
        refine ((HR.out.set k _).alloc _).congr fun i _ => ?_
        unfold kfill
        by_cases hi : i = k
        · subst hi
          rw [if_pos rfl, if_pos (by omega), List.getD_eq_getElem?_getD, hlk]; rfl
        · rw [if_neg hi]
          by_cases h2 : i < k
          · rw [if_pos h2, if_pos (by omega)]
          · rw [if_neg h2, if_neg (by omega)]
      clear HR hlk
      go_wp2
      exact ⟨⟨k + 1, by omega, by go_num, HR2.out, bel_alloc (bel_set HB.out (Nat.le_refl _) _) _⟩, by simp [intOf]; omega⟩
    · obtain rfl : k = n := by omega
      have hOne : Hid (One kI wr (some ⟨w.heap.size, 0, none⟩) k (l.map (·.k))) := by
        refine ⟨by rw [List.length_map]; exact hnl.out, fun i hi => ⟨w.heap.size, 0, (l.getD i nul).k, rfl, ?_, HR.out.lt, ?_⟩⟩
        · have : i < l.length := by have := hnl.out; omega
          simp [this]
        · rw [Nat.zero_add, HR.out.cell hi]; unfold kfill; rw [if_pos hi]
      clear HR
      go_wp2
      go_ret
      exact ⟨⟨_, rfl, hOne.out⟩, HB.out⟩
/-! ### OR -/
def oc (o : Ot) : Nat → Value
  | 0 => .int .u8 o.k
  | 1 => .int .i64 o.n
  | 2 => .string o.s
  | _ => .int .i64 o.e
def ofill (m : List Ot) (k : Nat) : Nat → Value := fun i => oc (if i / 4 < k then m.getD (i / 4) nul else nul) (i % 4)
theorem run_make_outs (n : Nat) (hb : 40 * n ≤ 281474976710656) (w : World) :
    (Instr.makeSlice 23 (.int .i64 (n : Int)) (.int .i64 (n : Int))).run Tryz.prog w = .ok (.slice (some ⟨w.heap.size, 0, none⟩) n n) (w.alloc (.cells (madeCells #[.int .u8 0, .int .i64 0, .string ⟨#[]⟩, .int .i64 0] (n * 4)) 31)) := by
  obtain ⟨i, hi, hzz⟩ := Option.map_eq_some_iff.1 infoOut
  simp only [Prod.mk.injEq] at hzz
  obtain ⟨hz, hs, hbb⟩ := hzz
  have hr := run_make (P := Tryz.prog) w 23 31 i _ Tryz.underlying23 hi hz .i64 .i64 n n (by omega) (Int.le_refl _) (by rw [hbb]; omega) (by omega)
  simp only [Int.toNat_natCast, hs] at hr
  exact hr
theorem made_outs (w : World) (n : Nat) (m : List Ot) : (w.alloc (.cells (madeCells #[.int .u8 0, .int .i64 0, .string ⟨#[]⟩, .int .i64 0] (n * 4)) 31)).rowIs w.heap.size 31 (n * 4) (ofill m 0) :=
  ⟨_, Go.Deep.blk_alloc_new _ _, size_madeCells _ _, fun i hi => by
    have h4 : i % 4 < 4 := Nat.mod_lt _ (by omega)
    simp only [madeCells, Array.getElem?_map, Array.getElem?_range, hi, ofill, Nat.not_lt_zero, if_false]
    have : i % 4 = 0 ∨ i % 4 = 1 ∨ i % 4 = 2 ∨ i % 4 = 3 := by omega
    rcases this with e | e | e | e <;> simp [e, oc]⟩
theorem ofill_cell {w : World} {b n k : Nat} {m : List Ot} (h : w.rowIs b 31 (n * 4) (ofill m k)) {i : Nat} (hi : i < n) (r : Nat) (hr : r < 4) : w.cell? ⟨b, i * 4 + r, none⟩ = some (oc (if i < k then m.getD i nul else nul) r) := by
  rw [h.cell (by omega)]
  unfold ofill
  have e1 : (i * 4 + r) / 4 = i := by omega
  have e2 : (i * 4 + r) % 4 = r := by omega
  rw [e1, e2]
/-- The cells of one out written into the row. -/
abbrev put4at (W : World) (b i : Nat) (o : Ot) : World := (((W.setCell ⟨b, i * 4, none⟩ (.int .u8 o.k)).setCell ⟨b, i * 4 + 1, none⟩ (.int .i64 o.n)).setCell ⟨b, i * 4 + 2, none⟩ (.string o.s)).setCell ⟨b, i * 4 + 3, none⟩ (.int .i64 o.e)
theorem st4 {w : World} {b i : Nat} {u0 u1 u2 u3 : Value} (o : Ot) (q0 : w.cell? ⟨b, i, none⟩ = some u0) (q1 : w.cell? ⟨b, i + 1, none⟩ = some u1) (q2 : w.cell? ⟨b, i + 2, none⟩ = some u2) (q3 : w.cell? ⟨b, i + 3, none⟩ = some u3)
    (r0 : w.frozen? ⟨b, i, none⟩ = false) (r1 : w.frozen? ⟨b, i + 1, none⟩ = false) (r2 : w.frozen? ⟨b, i + 2, none⟩ = false) (r3 : w.frozen? ⟨b, i + 3, none⟩ = false) :
    (storeCells ⟨b, i, none⟩ [.int .u8 o.k, .int .i64 o.n, .string o.s, .int .i64 o.e] 0).run Tryz.prog w = .ok () ((((w.setCell ⟨b, i, none⟩ (.int .u8 o.k)).setCell ⟨b, i + 1, none⟩ (.int .i64 o.n)).setCell ⟨b, i + 2, none⟩ (.string o.s)).setCell ⟨b, i + 3, none⟩ (.int .i64 o.e)) := by
  simp [storeCells, go_sem, *]
  done
theorem run_store4 {w : World} {b i : Nat} {u0 u1 u2 u3 : Value} (o : Ot) (q0 : w.cell? ⟨b, i, none⟩ = some u0) (q1 : w.cell? ⟨b, i + 1, none⟩ = some u1) (q2 : w.cell? ⟨b, i + 2, none⟩ = some u2) (q3 : w.cell? ⟨b, i + 3, none⟩ = some u3)
    (r0 : w.frozen? ⟨b, i, none⟩ = false) (r1 : w.frozen? ⟨b, i + 1, none⟩ = false) (r2 : w.frozen? ⟨b, i + 2, none⟩ = false) (r3 : w.frozen? ⟨b, i + 3, none⟩ = false) :
    (storeVar 31 ⟨b, i, none⟩ (enc o)).run Tryz.prog w = .ok () ((((w.setCell ⟨b, i, none⟩ (.int .u8 o.k)).setCell ⟨b, i + 1, none⟩ (.int .i64 o.n)).setCell ⟨b, i + 2, none⟩ (.string o.s)).setCell ⟨b, i + 3, none⟩ (.int .i64 o.e)) := by
  have h := st4 o q0 q1 q2 q3 r0 r1 r2 r3
  obtain ⟨x, hi, hz⟩ := Option.map_eq_some_iff.1 infoOut
  simp only [Prod.mk.injEq] at hz
  simp [storeVar, sizeOf, typeInfo, hi, hz.2.1, Value.cells, h]
/-- A whole out stored: at the walk's list. -/
theorem wpl_store4 {ops : Array Oper} {rest : List Oper} {typ : TypeId} {ps : String} {af : Array Edge} {x y : Operand} {Q : Exit → Act → World → Prop} {a : Act} {w w' : World} {b i : Nat} {o : Ot}
    (hx : a.eval x = .pointer (some ⟨b, i, none⟩)) (hy : a.eval y = enc o) (hr : (storeVar 31 ⟨b, i, none⟩ (enc o)).run Tryz.prog w = .ok () w')
    (h : wpList Tryz.prog ops Q rest a w') : wpList Tryz.prog ops Q ({ dst := none, op := .store 31 x y, type := typ, pos := ps, after := af, guard := none } :: rest) a w := by
  refine wpList_plain rfl fun K hK => ?_
  unfold Oper.wp execOp
  simp only [hx, hy, Instr.storeAt, Instr.sureAddr, Sem.run_bind, Sem.run_pure, Result.andThen_ok, hr]
  exact hK _ _ h
theorem ofill_put {w : World} {b n k : Nat} {m : List Ot} (h : w.rowIs b 31 (n * 4) (ofill m k)) (hk : k < n) {o : Ot} (ho : m.getD k nul = o) : (put4at w b k o).rowIs b 31 (n * 4) (ofill m (k + 1)) := by
  refine ((((h.set (k * 4) _).set (k * 4 + 1) _).set (k * 4 + 2) _).set (k * 4 + 3) _).congr fun i _ => ?_
  unfold ofill
  by_cases h3 : i = k * 4 + 3
  · subst h3
    have e1 : (k * 4 + 3) / 4 = k := by omega
    have e2 : (k * 4 + 3) % 4 = 3 := by omega
    simp only [e1, e2, if_true]
    rw [if_pos (by omega), ho]; rfl
  rw [if_neg h3]
  by_cases h2 : i = k * 4 + 2
  · subst h2
    have e1 : (k * 4 + 2) / 4 = k := by omega
    have e2 : (k * 4 + 2) % 4 = 2 := by omega
    simp only [e1, e2, if_true]
    rw [if_pos (by omega), ho]; rfl
  rw [if_neg h2]
  by_cases h1 : i = k * 4 + 1
  · subst h1
    have e1 : (k * 4 + 1) / 4 = k := by omega
    have e2 : (k * 4 + 1) % 4 = 1 := by omega
    simp only [e1, e2, if_true]
    rw [if_pos (by omega), ho]; rfl
  rw [if_neg h1]
  by_cases h0 : i = k * 4
  · subst h0
    have e1 : (k * 4) / 4 = k := by omega
    have e2 : (k * 4) % 4 = 0 := by omega
    simp only [e1, e2, if_true]
    rw [if_pos (by omega), ho]; rfl
  rw [if_neg h0]
  by_cases hlt : i / 4 < k
  · rw [if_pos hlt, if_pos (by omega)]
  · rw [if_neg hlt, if_neg (by omega)]
theorem ofill_outs {w : World} {b n : Nat} {m : List Ot} (h : w.rowIs b 31 (n * 4) (ofill m n)) (hn : n = m.length) : Outs w (some ⟨b, 0, none⟩) n m := by
  refine ⟨hn, fun k hk => ⟨b, 0, m.getD k nul, rfl, ?_, h.lt, ?_, ?_, ?_, ?_⟩⟩
  · have : k < m.length := by omega
    simp [this]
  · have := ofill_cell h hk 0 (by omega); rw [if_pos hk] at this; simpa [oc] using this
  · have := ofill_cell h hk 1 (by omega); rw [if_pos hk] at this; simpa [oc] using this
  · have := ofill_cell h hk 2 (by omega); rw [if_pos hk] at this; simpa [oc] using this
  · have := ofill_cell h hk 3 (by omega); rw [if_pos hk] at this; simpa [oc] using this
theorem c_not (o : Ot) (h : tr o = true) (w : World) : Ret 35 #[enc o] w (enc (neg o)) := by
  rcases tr_cases h with rfl | rfl | rfl | ⟨e, he, rfl⟩
  · exact c_not_n 0 0 _ 0 (by decide) w
  · exact c_not_b 1 (.inr rfl) w
  · exact c_not_b 0 (.inl rfl) w
  · exact c_not_n 0 0 _ e (by decide) w
set_option maxRecDepth 100000 in
set_option maxHeartbeats 2000000 in
theorem c_or (a : Option Addr) (n c : Nat) (l : List Ot) (hsz : 40 * n ≤ 281474976710656) (ht : l.all tr = true) (w : World) (h : Outs w a n l) : Ret 15 #[.slice a n c] w (enc (neg (andP (bo true) (l.map neg)))) := by
  have HL := Lib.hid h
  have hnl := Lib.hid h.len
  have HT := Lib.hid ht
  clear h ht
  have hmk := run_make_outs n hsz
  go_enter Tryz.func15, Tryz.ntmps15
  go_wp2
  have HR0 : Hid (Box ((box w 0 0 ⟨#[]⟩ 0).alloc (.cells (madeCells #[.int .u8 0, .int .i64 0, .string ⟨#[]⟩, .int .i64 0] (n * 4)) 31)) w.heap.size nul) := (Box.new w nul).alloc _
  go_loopw [11] (fun s11 wr => ∃ (k : Nat), k ≤ n ∧ s11 = .int .i64 k ∧ Hid (wr.rowIs (w.heap.size + 1) 31 (n * 4) (ofill (l.map neg) k)) ∧ Hid (Box wr w.heap.size nul) ∧ Hid (Below w.heap.size w wr)) (fun s11 _ => n - (intOf s11).toNat)
  case atStart =>
    refine ⟨0, by omega, rfl, ?_, HR0.out, bel_alloc (bel_alloc (Below.refl _ _) _) _⟩
    have := made_outs (box w 0 0 ⟨#[]⟩ 0) n (l.map neg)
    rw [World.size_alloc] at this
    exact this
  case round =>
    clear HR0
    obtain ⟨k, hk, rfl, HR, HX, HB⟩ := hrel
    by_cases hlt : k < n
    · obtain ⟨g, p, o, rfl, hlk, hg, c0, c1, c2, c3⟩ := (HL.out.below HB.out).at_ k hlt
      have HTo : Hid (tr o = true) := List.all_eq_true.1 HT.out o (List.mem_of_getElem? hlk)
      have hgd : Hid ((l.map neg).getD k nul = neg o) := by
        show _ = _
        rw [List.getD_eq_getElem?_getD, List.getElem?_map, hlk]; rfl
      clear hlk
      have hlt2 := HR.out.lt
      go_wp2_with fail
      refine (c_not o HTo.out _).mono ?_
      rintro e w2 ⟨rfl, hb2⟩
      have B2 : Below wr.heap.size wr w2 := bel_trans (bel_alloc (Below.refl _ _) _) hb2
      have HB2 : Hid (Below w.heap.size w w2) := bel_trans HB.out B2
      have HX2 := Lib.hid (HX.out.below B2)
      have HR2 : Hid (w2.rowIs (w.heap.size + 1) 31 (n * 4) (ofill (l.map neg) k)) := HR.out.of_block (B2.block _ hlt2)
      have q0 := ofill_cell HR2.out hlt 0 (by omega)
      have q1 := ofill_cell HR2.out hlt 1 (by omega)
      have q2 := ofill_cell HR2.out hlt 2 (by omega)
      have q3 := ofill_cell HR2.out hlt 3 (by omega)
      rw [if_neg (by omega)] at q0 q1 q2 q3
      rw [Nat.add_zero] at q0
      have r0 := HR2.out.frozen (k * 4)
      have r1 := HR2.out.frozen (k * 4 + 1)
      have r2 := HR2.out.frozen (k * 4 + 2)
      have r3 := HR2.out.frozen (k * 4 + 3)
      have hst := Lib.hid (run_store4 (neg o) q0 q1 q2 q3 r0 r1 r2 r3)
      have HR3 : Hid ((put4at w2 (w.heap.size + 1) k (neg o)).rowIs (w.heap.size + 1) 31 (n * 4) (ofill (l.map neg) (k + 1))) := ofill_put HR2.out hlt hgd.out
      have HX3 : Hid (Box (put4at w2 (w.heap.size + 1) k (neg o)) w.heap.size nul) := by
        obtain ⟨h0, h1, h2, h3, h4, h5, h6, h7, h8⟩ := HX2.out
        constructor <;> simp [go_sem, *]
      have HB3 : Hid (Below w.heap.size w (put4at w2 (w.heap.size + 1) k (neg o))) := bel_set (bel_set (bel_set (bel_set HB2.out (by simp) _) (by simp) _) (by simp) _) (by simp) _
      clear HR HX HB hb2 B2 HR2 HX2 HB2 hgd q0 q1 q2 q3 r0 r1 r2 r3
      go_wp2_with ((with_reducible refine wpl_store4 (o := neg o) ?_ ?_ hst.out ?_); rfl; rfl)
      exact ⟨⟨k + 1, by omega, by go_num, HR3.out, HX3.out, HB3.out⟩, by simp [intOf]; omega⟩
    · obtain rfl : k = n := by omega
      have HO : Hid (Outs wr (some ⟨w.heap.size + 1, 0, none⟩) k (l.map neg)) := ofill_outs HR.out (by rw [List.length_map]; exact hnl.out)
      have HT2 : Hid ((l.map neg).all tr = true) := all_neg HT.out
      have HTa : Hid (tr (andP (bo true) (l.map neg)) = true) := by
        show _ = _
        rw [and_is HT2.out, chain_is false HT2.out]; exact tr_dec (mr_is HT2.out)
      clear HR
      go_wp2_with fail
      refine (c_and _ _ _ _ (by omega) HT2.out _ HO.out).mono ?_
      rintro e w2 ⟨rfl, hb2⟩
      have HX2 := Lib.hid (HX.out.below hb2)
      have HB2 : Hid (Below w.heap.size w w2) := bel_trans HB.out hb2
      clear hb2 HX HB
      generalize hr : andP (bo true) (l.map neg) = r at HTa ⊢
      have hr := Lib.hid hr
      go_wp2_with fail
      refine (c_not r HTa.out _).mono ?_
      rintro e w3 ⟨rfl, hb3⟩
      obtain ⟨hx, d0, d1, d2, d3, e0, e1, e2, e3⟩ := HX2.out.below hb3
      have HB3 : Hid (Below w.heap.size w w3) := bel_trans HB2.out hb3
      clear hb3
      generalize hz : neg r = z
      have hz := Lib.hid hz
      go_wp2
      exact bodyPost_ret (v := ov z.k z.n z.s z.e) (by simp [results, Tryz.results15, go_sem, *]) rfl ⟨ret_v (by rw [hr.out, hz.out]), put4_below HB3.out (Nat.le_refl _) _⟩
end Go.Proofs.YtdbhencjomnjhaaGreatDoor.K
namespace Go.Proofs.YtdbhencjomnjhaaGreatDoor.K
open Go.ChangeShapes Go.WideShapes Go.ChangeAt Go.RowKit Go.Proofs.YtdbhencjomnjhaaGreatDoor.V
theorem c_areValid1 (o : Ot) (w : World) : Ret 28 #[enc o] w (.bool (!o.ok)) := by
  go_enter Tryz.func28, Tryz.ntmps28
  go_wp2_with fail
  refine (c_isValid o _).mono ?_; rintro e w1 ⟨rfl, hbw1⟩; obtain ⟨hcw1, hfw1⟩ := bcell hbw1; have hzw1 := hbw1.size; (try simp at hzw1); have hk0w1 : w.heap.size < w1.heap.size := (by omega)
  go_wp2
  go_ret
  exact ⟨rfl, by repeat (first | exact Below.refl _ _ | assumption | exact Go.Proofs.YtdbhencjomnjhaaGreatDoor.V.below_drewN _ _ | (refine bel_trans ?_ (Go.Proofs.YtdbhencjomnjhaaGreatDoor.V.below_drewN _ _)) | (refine bel_trans ?_ (by assumption)) | (with_reducible apply bel_alloc) | (with_reducible apply Below.drew) | apply bel_alloc | apply Below.drew | refine bel_set ?_ (by simp; try omega) _)⟩
theorem l_ContainsOut (F : Nat) (ca : Array Value) (HE : EntersF F) (p : Ot → Bool) (a : Option Addr) (n c : Nat) (l : List Ot) (hn : n ≤ 9223372036854775807) (w : World) (h : Outs w a n l)
    (hF : ∀ o ∈ l, ∀ w', Below w.heap.size w w' → Ret F (#[enc o] ++ ca) w' (.bool (p o))) : Ret 27 #[.slice a n c, .func (.func F) #[] ca] w (.bool (l.any p)) := by
  have HI := Lib.hid (idx_any (p := p) l 0)
  go_enter Tryz.func27, Tryz.ntmps27
  go_wp2_with fail
  refine (l_IndexOut F ca HE p a n c l hn _ h hF).mono ?_; rintro e w1 ⟨rfl, hbw1⟩; obtain ⟨hcw1, hfw1⟩ := bcell hbw1; have hzw1 := hbw1.size; (try simp at hzw1)
  go_wp2
  go_ret
  exact ⟨ret_bool HI.out, by repeat (first | exact Below.refl _ _ | assumption | exact Go.Proofs.YtdbhencjomnjhaaGreatDoor.V.below_drewN _ _ | (refine bel_trans ?_ (Go.Proofs.YtdbhencjomnjhaaGreatDoor.V.below_drewN _ _)) | (refine bel_trans ?_ (by assumption)) | (with_reducible apply bel_alloc) | (with_reducible apply Below.drew) | apply bel_alloc | apply Below.drew | refine bel_set ?_ (by simp; try omega) _)⟩
theorem c_areValid (a : Option Addr) (n c : Nat) (l : List Ot) (hn : n ≤ 9223372036854775807) (w : World) (h : Outs w a n l) : Ret 12 #[.slice a n c] w (.bool (l.all Ot.ok)) := by
  have e : Hid ((!(l.any fun o => !o.ok)) = l.all Ot.ok) := by
    show _ = _
    rw [Bool.eq_iff_iff]; simp
  go_enter Tryz.func12, Tryz.ntmps12
  go_wp2_with fail
  refine (l_ContainsOut 28 #[] (fun _ _ => by kernel_rfl) (fun o => !o.ok) a n c l hn _ h (fun o _ w' _ => c_areValid1 o w')).mono ?_; rintro e w1 ⟨rfl, hbw1⟩; obtain ⟨hcw1, hfw1⟩ := bcell hbw1; have hzw1 := hbw1.size; (try simp at hzw1)
  go_wp2
  go_ret
  exact ⟨ret_bool e.out, by repeat (first | exact Below.refl _ _ | assumption | exact Go.Proofs.YtdbhencjomnjhaaGreatDoor.V.below_drewN _ _ | (refine bel_trans ?_ (Go.Proofs.YtdbhencjomnjhaaGreatDoor.V.below_drewN _ _)) | (refine bel_trans ?_ (by assumption)) | (with_reducible apply bel_alloc) | (with_reducible apply Below.drew) | apply bel_alloc | apply Below.drew | refine bel_set ?_ (by simp; try omega) _)⟩
theorem kind_chain {op : Int} (ho : op = 23 ∨ op = 24) {l : List Ot} (h : l.all tr = true) : kind op (l.map (·.k)) = (3, 0) := by
  obtain ⟨h1, h2⟩ := kinds_tr h
  have hs : sortOf op = (8, -1) := by rcases ho with rfl | rfl <;> rfl
  unfold kind takes
  rw [hs]
  simp only [h2, kindOf, h1]
  rfl
set_option maxRecDepth 100000 in
set_option maxHeartbeats 4000000 in
theorem c_Node_and (a : Option Addr) (n c : Nat) (l : List Ot) (hsz : 40 * n ≤ 140737488351232) (ht : l.all tr = true) (w : World) (h : Outs w a n l) : Ret 5 #[.int .u8 23, .slice a n c] w (enc (node 23 l)) := by
  have HL := Lib.hid h
  have hK := Lib.hid (kind_chain (op := 23) (.inl rfl) ht)
  have hV := Lib.hid (all_ok_of_tr ht)
  have hN : Hid (andP (bo true) l = node 23 l) := by show _ = _; rw [and_is ht, chain_is false ht, node_and ht]
  have HT := Lib.hid ht
  clear h ht
  go_enter Tryz.func5, Tryz.ntmps5
  go_wp2_with fail
  have HL0 := Lib.hid (HL.out.below (bel_alloc (Below.refl _ w) (.cells #[.int .u8 0, .int .i64 0, .string ⟨#[]⟩, .int .i64 0] 31)))
  refine (c_kindsOf a n c l (by omega) _ HL0.out).mono ?_
  rintro e w1 ⟨⟨a2, rfl, hone⟩, hb1⟩
  have HX1 : Hid (Box w1 w.heap.size nul) := (Box.new w nul).below hb1
  have B1 : Hid (Below w.heap.size w w1) := bel_trans (bel_alloc (Below.refl _ _) _) hb1
  have HO := Lib.hid hone
  clear hb1 hone HL0
  go_wp2_with fail
  refine (c_Kind 23 a2 n n (l.map (·.k)) (Nat.le_refl _) (by omega) (by omega) _ HO.out).mono ?_
  rw [hK.out]
  rintro e w2 ⟨rfl, hb2⟩
  have HX2 := Lib.hid (HX1.out.below hb2)
  have B2 : Hid (Below w.heap.size w w2) := bel_trans B1.out hb2
  clear hb2 HX1 B1 HO
  simp only [kV]
  go_wp2_with fail
  refine (c_areValid a n c l (by omega) _ (HL.out.below B2.out)).mono ?_
  rw [hV.out]
  rintro e w3 ⟨rfl, hb3⟩
  have HX3 := Lib.hid (HX2.out.below hb3)
  have B3 : Hid (Below w.heap.size w w3) := bel_trans B2.out hb3
  clear hb3 HX2 B2
  go_wp2_with fail
  refine (c_and a n c l (by omega) HT.out _ (HL.out.below B3.out)).mono ?_
  rw [hN.out]
  rintro e w4 ⟨rfl, hb4⟩
  obtain ⟨hx, d0, d1, d2, d3, e0, e1, e2, e3⟩ := HX3.out.below hb4
  have B4 : Hid (Below w.heap.size w w4) := bel_trans B3.out hb4
  clear hb4
  generalize hz : node 23 l = z
  have hz := Lib.hid hz
  go_wp2
  exact bodyPost_ret (v := ov z.k z.n z.s z.e) (by simp [results, Tryz.results5, go_sem, *]) rfl ⟨ret_v (by rw [hz.out]), put4_below B4.out (Nat.le_refl _) _⟩
set_option maxRecDepth 100000 in
set_option maxHeartbeats 4000000 in
theorem c_Node_or (a : Option Addr) (n c : Nat) (l : List Ot) (hsz : 40 * n ≤ 140737488351232) (ht : l.all tr = true) (w : World) (h : Outs w a n l) : Ret 5 #[.int .u8 24, .slice a n c] w (enc (node 24 l)) := by
  have HL := Lib.hid h
  have hK := Lib.hid (kind_chain (op := 24) (.inr rfl) ht)
  have hV := Lib.hid (all_ok_of_tr ht)
  have hN : Hid (neg (andP (bo true) (l.map neg)) = node 24 l) := by show _ = _; rw [or_is ht, chain_is true ht, node_or ht]
  have HT := Lib.hid ht
  clear h ht
  go_enter Tryz.func5, Tryz.ntmps5
  go_wp2_with fail
  have HL0 := Lib.hid (HL.out.below (bel_alloc (Below.refl _ w) (.cells #[.int .u8 0, .int .i64 0, .string ⟨#[]⟩, .int .i64 0] 31)))
  refine (c_kindsOf a n c l (by omega) _ HL0.out).mono ?_
  rintro e w1 ⟨⟨a2, rfl, hone⟩, hb1⟩
  have HX1 : Hid (Box w1 w.heap.size nul) := (Box.new w nul).below hb1
  have B1 : Hid (Below w.heap.size w w1) := bel_trans (bel_alloc (Below.refl _ _) _) hb1
  have HO := Lib.hid hone
  clear hb1 hone HL0
  go_wp2_with fail
  refine (c_Kind 24 a2 n n (l.map (·.k)) (Nat.le_refl _) (by omega) (by omega) _ HO.out).mono ?_
  rw [hK.out]
  rintro e w2 ⟨rfl, hb2⟩
  have HX2 := Lib.hid (HX1.out.below hb2)
  have B2 : Hid (Below w.heap.size w w2) := bel_trans B1.out hb2
  clear hb2 HX1 B1 HO
  simp only [kV]
  go_wp2_with fail
  refine (c_areValid a n c l (by omega) _ (HL.out.below B2.out)).mono ?_
  rw [hV.out]
  rintro e w3 ⟨rfl, hb3⟩
  have HX3 := Lib.hid (HX2.out.below hb3)
  have B3 : Hid (Below w.heap.size w w3) := bel_trans B2.out hb3
  clear hb3 HX2 B2
  go_wp2_with fail
  refine (c_or a n c l (by omega) HT.out _ (HL.out.below B3.out)).mono ?_
  rw [hN.out]
  rintro e w4 ⟨rfl, hb4⟩
  obtain ⟨hx, d0, d1, d2, d3, e0, e1, e2, e3⟩ := HX3.out.below hb4
  have B4 : Hid (Below w.heap.size w w4) := bel_trans B3.out hb4
  clear hb4
  generalize hz : node 24 l = z
  have hz := Lib.hid hz
  go_wp2
  exact bodyPost_ret (v := ov z.k z.n z.s z.e) (by simp [results, Tryz.results5, go_sem, *]) rfl ⟨ret_v (by rw [hz.out]), put4_below B4.out (Nat.le_refl _) _⟩
end Go.Proofs.YtdbhencjomnjhaaGreatDoor.K
