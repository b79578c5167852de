/- Whether outs are valid. -/
import Derived.Test.YtdbhencjomnjhaaGreatDoorGab
import Derived.RangeFuncNested
import Derived.RangeFuncBound
import Derived.RangeFuncCalls
import Derived.RangeFuncLeaves
import Derived.Shelf.Abstract
import Derived.Shelf.RegionOpen
import Derived.OwnWalkIn
import Derived.TacticsInMore
import Derived.LoopNIn
import Derived.LoopIn
import Derived.BigRegionIn
import Derived.Sort.QuietIn
namespace Go.Proofs.YtdbhencjomnjhaaGreatDoor.K
open Go.ChangeShapes Go.WideShapes Go.ChangeAt Go.RowKit Go.Proofs.YtdbhencjomnjhaaGreatDoor.V
/-- A slice of one cell an element reads as this list. -/
structure One {α : Type} (f : α → Value) (W : World) (a : Option Addr) (n : Nat) (l : List α) : Prop where
  len : n = l.length
  at_ : ∀ k, k < n → ∃ g p x, a = some ⟨g, p, none⟩ ∧ l[k]? = some x ∧ g < W.heap.size ∧ W.cell? ⟨g, p + k, none⟩ = some (f x)
theorem One.below {α : Type} {f : α → Value} {w w' : World} {a : Option Addr} {n : Nat} {l : List α} (h : One f w a n l) (hb : Below w.heap.size w w') : One f w' a n l :=
  ⟨h.len, fun k hk => by
    obtain ⟨g, p, o, h1, h2, h3, h4⟩ := h.at_ k hk
    exact ⟨g, p, o, h1, h2, Nat.lt_of_lt_of_le h3 hb.size, (hb.cell (p := ⟨g, _, none⟩) h3).trans h4⟩⟩
abbrev eI (e : Int) : Value := .int .i64 e
abbrev kI (e : Int) : Value := .int .u8 e
set_option maxHeartbeats 1000000 in
theorem l_IndexErr (x : Int) (a : Option Addr) (n c : Nat) (l : List Int) (hn : n ≤ 9223372036854775807) (w : World) (h : One eI w a n l) : Ret 81 #[.slice a n c, .int .i64 x] w (.int .i64 (idx (x == ·) l 0)) := by
  have HL := Lib.hid h
  clear h
  go_enter Tryz.func81, Tryz.ntmps81
  go_wp2
  go_loopw [8] (fun s8 wr => ∃ (k : Nat), k ≤ n ∧ s8 = .int .i64 k ∧ Hid (idx (x == ·) (l.drop k) k = idx (x == ·) l 0) ∧ Hid (Below w.heap.size w wr)) (fun s8 _ => n - (intOf s8).toNat)
  case atStart => exact ⟨0, by omega, rfl, rfl, Below.refl _ _⟩
  case round =>
    obtain ⟨k, hk, rfl, HI, HB⟩ := hrel
    by_cases hlt : k < n
    · obtain ⟨g, q, o, rfl, hlk, hg, c0⟩ := (HL.out.below HB.out).at_ k hlt
      have HI2 : Hid ((if (x == o) = true then (k : Int) else idx (x == ·) (l.drop (k + 1)) (k + 1)) = idx (x == ·) l 0) := (idx_drop hlk k).symm.trans HI.out
      clear HI hlk
      cases hp : (x == o) with
      | true =>
        rw [hp, if_pos rfl] at HI2
        go_wp2
        go_ret
        exact ⟨ret_int HI2.out, HB.out⟩
      | false =>
        rw [hp, if_neg (by simp)] at HI2
        go_wp2
        refine ⟨⟨k + 1, by omega, by go_num, HI2.out, HB.out⟩, by simp [intOf]; omega⟩
    · have he : idx (x == ·) l 0 = -1 := by rw [← HI.out, idx_end (by have := HL.out.len; omega)]
      have HE := Lib.hid he
      clear he HI
      go_wp2
      go_ret
      exact ⟨ret_int HE.out.symm, HB.out⟩
theorem l_ContainsErr (x : Int) (a : Option Addr) (n c : Nat) (l : List Int) (hn : n ≤ 9223372036854775807) (w : World) (h : One eI w a n l) : Ret 66 #[.slice a n c, .int .i64 x] w (.bool (l.any (x == ·))) := by
  have HI := Lib.hid (idx_any (p := (x == ·)) l 0)
  go_enter Tryz.func66, Tryz.ntmps66
  go_wp2_with fail
  refine (l_IndexErr x a n c l hn _ h).mono ?_; rintro e w1 ⟨rfl, hbw1⟩; obtain ⟨hcw1, hfw1⟩ := bcell hbw1; have hzw1 := hbw1.size; (try simp [World.drew] at hzw1)
  go_wp2
  go_ret
  exact ⟨ret_bool HI.out, by repeat (first | exact Below.refl _ _ | assumption | (refine bel_trans ?_ (by assumption)) | (with_reducible apply bel_alloc) | (with_reducible apply Below.drew) | apply bel_alloc | apply Below.drew | refine bel_set ?_ (by simp; try omega) _)⟩
theorem four_err (b : Nat) (W : World) (hb : b < W.heap.size) (h0 : W.cell? ⟨b, 0, none⟩ = some (.int .i64 3)) (h1 : W.cell? ⟨b, 1, none⟩ = some (.int .i64 4)) (h2 : W.cell? ⟨b, 2, none⟩ = some (.int .i64 5)) (h3 : W.cell? ⟨b, 3, none⟩ = some (.int .i64 6)) :
    One eI W (some ⟨b, 0, none⟩) 4 [3, 4, 5, 6] :=
  ⟨rfl, fun k hk => by
    have : k = 0 ∨ k = 1 ∨ k = 2 ∨ k = 3 := by omega
    rcases this with rfl | rfl | rfl | rfl
    · exact ⟨b, 0, 3, rfl, rfl, hb, h0⟩
    · exact ⟨b, 0, 4, rfl, rfl, hb, h1⟩
    · exact ⟨b, 0, 5, rfl, rfl, hb, h2⟩
    · exact ⟨b, 0, 6, rfl, rfl, hb, h3⟩⟩
theorem c_isFailure (e : Int) (w : World) : Ret 51 #[.int .i64 e] w (.bool (isErr e)) := by
  go_enter Tryz.func51, Tryz.ntmps51
  go_wp2_with fail
  refine (l_ContainsErr e _ _ _ [3, 4, 5, 6] (by decide) _ (four_err _ _ (by simp) (by simp [go_sem]) (by simp [go_sem]) (by simp [go_sem]) (by simp [go_sem]))).mono ?_; rintro e w1 ⟨rfl, hbw1⟩; obtain ⟨hcw1, hfw1⟩ := bcell hbw1; have hzw1 := hbw1.size; (try simp [World.drew] at hzw1)
  go_wp2
  go_ret
  exact ⟨ret_bool (by simp [isErr, Bool.or_assoc]), by repeat (first | exact Below.refl _ _ | assumption | (refine bel_trans ?_ (by assumption)) | (with_reducible apply bel_alloc) | (with_reducible apply Below.drew) | apply bel_alloc | apply Below.drew | refine bel_set ?_ (by simp; try omega) _)⟩
theorem c_isValid (o : Ot) (w : World) : Ret 29 #[enc o] w (.bool o.ok) := by
  cases he : isErr o.e with
  | true =>
    have hx : (o.e = 0) = False := by simp; intro h; rw [h] at he; cases he
    go_enter Tryz.func29, Tryz.ntmps29
    go_wp2_with fail
    refine (c_isFailure _ _).mono ?_; rintro e w1 ⟨rfl, hbw1⟩; obtain ⟨hcw1, hfw1⟩ := bcell hbw1; have hzw1 := hbw1.size; (try simp [World.drew] at hzw1)
    rw [he]
    go_wp2
    all_goals (go_ret; exact ⟨ret_bool (by simp [Ot.ok, hx, he, ba_nil', *]), by repeat (first | exact Below.refl _ _ | assumption | (refine bel_trans ?_ (by assumption)) | (with_reducible apply bel_alloc) | (with_reducible apply Below.drew) | apply bel_alloc | apply Below.drew | refine bel_set ?_ (by simp; try omega) _)⟩)
  | false =>
    by_cases h0 : o.e = 0
    · go_enter Tryz.func29, Tryz.ntmps29
      go_wp2_with fail
      refine (c_isFailure _ _).mono ?_; rintro e w1 ⟨rfl, hbw1⟩; obtain ⟨hcw1, hfw1⟩ := bcell hbw1; have hzw1 := hbw1.size; (try simp [World.drew] at hzw1)
      rw [show isErr 0 = false from rfl]
      go_wp2_with (go_at_call 52; refine (c_Valid _ _ _ _).mono ?_; rintro e w2 ⟨rfl, hbw2⟩; obtain ⟨hcw2, hfw2⟩ := bcell hbw2; have hzw2 := hbw2.size; (try simp [World.drew] at hzw2))
      all_goals (go_ret; exact ⟨ret_bool (by simp [Ot.ok, h0, valid_is]), by repeat (first | exact Below.refl _ _ | assumption | (refine bel_trans ?_ (by assumption)) | (with_reducible apply bel_alloc) | (with_reducible apply Below.drew) | apply bel_alloc | apply Below.drew | refine bel_set ?_ (by simp; try omega) _)⟩)
    · go_enter Tryz.func29, Tryz.ntmps29
      go_wp2_with fail
      refine (c_isFailure _ _).mono ?_; rintro e w1 ⟨rfl, hbw1⟩; obtain ⟨hcw1, hfw1⟩ := bcell hbw1; have hzw1 := hbw1.size; (try simp [World.drew] at hzw1)
      rw [he]
      go_wp2_with (go_at_call 52; refine (c_Valid _ _ _ _).mono ?_; rintro e w2 ⟨rfl, hbw2⟩; obtain ⟨hcw2, hfw2⟩ := bcell hbw2; have hzw2 := hbw2.size; (try simp [World.drew] at hzw2))
      all_goals (go_ret; exact ⟨ret_bool (by simp [Ot.ok, h0, he]), by repeat (first | exact Below.refl _ _ | assumption | (refine bel_trans ?_ (by assumption)) | (with_reducible apply bel_alloc) | (with_reducible apply Below.drew) | apply bel_alloc | apply Below.drew | refine bel_set ?_ (by simp; try omega) _)⟩)
theorem r_ValidO (o : Ot) (w : World) : Ret 4 #[enc o] w (.bool o.ok) := by
  by_cases h0 : o.e = 0
  · go_enter Tryz.func4, Tryz.ntmps4
    go_wp2_with (go_at_call 8; refine (r_Valid _ _ _ _).mono ?_; rintro e w2 ⟨rfl, hbw2⟩; obtain ⟨hcw2, hfw2⟩ := bcell hbw2; have hzw2 := hbw2.size; (try simp [World.drew] at hzw2))
    all_goals (go_ret; exact ⟨ret_bool (by simp [Ot.ok, h0, valid_is]), by repeat (first | exact Below.refl _ _ | assumption | (refine bel_trans ?_ (by assumption)) | (with_reducible apply bel_alloc) | (with_reducible apply Below.drew) | apply bel_alloc | apply Below.drew | refine bel_set ?_ (by simp; try omega) _)⟩)
  · go_enter Tryz.func4, Tryz.ntmps4
    go_wp2_with (first | (go_at_call 9; refine (r_IsError _ _).mono ?_; rintro e w2 ⟨rfl, hbw2⟩; obtain ⟨hcw2, hfw2⟩ := bcell hbw2; have hzw2 := hbw2.size; (try simp [World.drew] at hzw2)) | (go_at_call 10; refine (r_Same _ _ _ _ _ _ _).mono ?_; rintro e w3 ⟨rfl, hbw3⟩; obtain ⟨hcw3, hfw3⟩ := bcell hbw3; have hzw3 := hbw3.size; (try simp [World.drew] at hzw3)))
    all_goals (go_ret; exact ⟨ret_bool (by simp [Ot.ok, h0, same, *]), by repeat (first | exact Below.refl _ _ | assumption | (refine bel_trans ?_ (by assumption)) | (with_reducible apply bel_alloc) | (with_reducible apply Below.drew) | apply bel_alloc | apply Below.drew | refine bel_set ?_ (by simp; try omega) _)⟩)
end Go.Proofs.YtdbhencjomnjhaaGreatDoor.K
namespace Go.Proofs.YtdbhencjomnjhaaGreatDoor.K
open Go.ChangeShapes Go.WideShapes Go.ChangeAt Go.RowKit Go.Proofs.YtdbhencjomnjhaaGreatDoor.V
/-! ### The program's table -/
/-- The fewest and the most kids, the kind of the kids, that of the node. -/
def sg (op : Int) : Int × Int × Int × Int :=
  if op = 4 then (1, 1, 1, 1) else if 5 ≤ op ∧ op ≤ 9 then (2, 2, 1, 1) else if op = 10 then (2, 2, 2, 2) else if op = 11 then (1, 1, 2, 1) else if 12 ≤ op ∧ op ≤ 18 then (2, 2, 0, 3) else if op = 19 then (2, 2, 2, 3)
  else if op = 20 then (1, 1, 0, 3) else if op = 21 ∨ op = 22 then (1, 1, 3, 3) else if op = 23 ∨ op = 24 then (0, 9223372036854775807, 3, 3) else if op = 25 then (2, 9223372036854775807, 0, 0) else if op = 26 then (1, 9223372036854775807, 0, 0) else (0, 0, 0, 0)
def has (op : Int) : Bool := decide (4 ≤ op ∧ op ≤ 26)
def kindP (op : Int) (l : List Int) : Int × Int :=
  if !has op || decide ((l.length : Int) < (sg op).1) || decide ((l.length : Int) > (sg op).2.1) || l.any (fun k => decide (k > 3)) then (0, 1)
  else match com 3 (if op = 25 then (parts l).1 else []), com (sg op).2.2.1 (if op = 25 then (parts l).2 else l) with
    | some _, some k => (if (sg op).2.2.2 ≠ 0 then (sg op).2.2.2 else k, 0)
    | _, _ => (0, 50)
theorem any_gt (l : List Int) : l.any (fun k => decide (k > 3)) = !l.all (fun k => decide (k ≤ 3)) := by
  rw [Bool.eq_iff_iff]
  simp
theorem com3 : com 3 ([] : List Int) = some 3 := rfl
theorem ag3 : allAg [] 3 = true := rfl
theorem kindP_is {op : Int} {l : List Int} (hl : l.length ≤ 9223372036854775807) : kindP op l = kind op l := by
  unfold kindP kind takes
  rw [any_gt]
  cases ha : l.all (fun k => decide (k ≤ 3)) with
  | false => simp
  | true =>
    simp only [Bool.not_true, Bool.or_false, Bool.and_true]
    by_cases ho : 4 ≤ op ∧ op ≤ 26
    · have hh : has op = true := by simp [has, ho]
      rw [hh]
      simp only [Bool.not_true, Bool.false_or]
      have hone : ∀ {a b : Int}, (l.length : Int) = a → a = 1 → ∃ x, l = [x] := by
        intro a b h1 h2
        match l, h1, h2 with
        | [x], _, _ => exact ⟨x, rfl⟩
        | [], h1, h2 => simp at h1; omega
        | _ :: _ :: _, h1, h2 => simp at h1; omega
      by_cases g1 : op = 23 ∨ op = 24
      · have e1 : sg op = (0, 9223372036854775807, 3, 3) := by rcases g1 with rfl | rfl <;> rfl
        have e2 : sortOf op = (8, -1) := by rcases g1 with rfl | rfl <;> rfl
        have e3 : ¬ op = 25 := by omega
        rw [e1, e2]
        simp only [e3, if_false, com, com_all (show (3 : Int) ≠ 0 by decide), kindOf]
        have h1 : decide ((l.length : Int) < 0) = false := by simp
        have h2 : decide ((l.length : Int) > 9223372036854775807) = false := by simp; omega
        rw [h1, h2]
        cases allAg l 3 <;> simp [ag3]
      by_cases g2 : op = 25
      · subst g2
        have h2 : decide ((l.length : Int) > 9223372036854775807) = false := by simp; omega
        simp only [show sg 25 = (2, 9223372036854775807, 0, 0) from rfl, show sortOf 25 = (9, -1) from rfl, if_true, com_all (show (3 : Int) ≠ 0 by decide), kindOf, h2]
        by_cases hl2 : l.length < 2
        · have : (l.length : Int) < 2 := by omega
          simp [hl2, this]
        · have : ¬ (l.length : Int) < 2 := by omega
          simp only [hl2, this]
          cases allAg (parts l).1 3 <;> cases com 0 (parts l).2 <;> simp
      by_cases g3 : op = 26
      · subst g3
        have h2 : decide ((l.length : Int) > 9223372036854775807) = false := by simp; omega
        simp only [show sg 26 = (1, 9223372036854775807, 0, 0) from rfl, show sortOf 26 = (10, -1) from rfl, com, kindOf, h2]
        by_cases hl2 : l.length < 1
        · have : (l.length : Int) < 1 := by omega
          simp [hl2, this]
        · have : ¬ (l.length : Int) < 1 := by omega
          simp only [hl2, this]
          simp
          rw [com3]
          cases com 0 l <;> simp
      by_cases g4 : op = 4 ∨ op = 11 ∨ op = 20 ∨ op = 21 ∨ op = 22
      · by_cases hl1 : (l.length : Int) = 1
        · obtain ⟨x, rfl⟩ := hone (b := 0) hl1 rfl
          rcases g4 with rfl | rfl | rfl | rfl | rfl
          · simp [sg, sortOf, kindOf, com, com_all, allAg]
            cases agree x 1 <;> simp
          · simp [sg, sortOf, kindOf, com, com_all, allAg]
            cases agree x 2 <;> simp
          · simp [sg, sortOf, kindOf, com, agree]
          · simp [sg, sortOf, kindOf, com, com_all, allAg]
            cases agree x 3 <;> simp
          · simp [sg, sortOf, kindOf, com, com_all, allAg]
            cases agree x 3 <;> simp
        · have h3 : (l.length : Int) < 1 ∨ (l.length : Int) > 1 := by omega
          have h4 : (decide ((l.length : Int) < 1) || decide ((l.length : Int) > 1)) = true := by simp; omega
          rcases g4 with rfl | rfl | rfl | rfl | rfl <;> simp only [sg, sortOf] <;> simp [hl1] <;> (intro h5; omega)
      · have htwo : (l.length : Int) = 2 → ∃ x y, l = [x, y] := by
          intro h
          match l, h with
          | [x, y], _ => exact ⟨x, y, rfl⟩
          | [], h => simp at h
          | [_], h => simp at h
          | _ :: _ :: _ :: _, h => simp at h; omega
        by_cases g5 : 5 ≤ op ∧ op ≤ 9
        · have e1 : sg op = (2, 2, 1, 1) := by unfold sg; rw [if_neg (by omega), if_pos g5]
          have e2 : sortOf op = (1, 2) := by unfold sortOf; rw [if_neg (by omega), if_pos g5]
          rw [e1, e2]
          by_cases hl2 : (l.length : Int) = 2
          · simp only [hl2, com, com_all (show (1 : Int) ≠ 0 by decide), show ¬ op = 25 by omega, if_false, kindOf]
            cases allAg l 1 <;> simp
          · simp [hl2]; omega
        by_cases g6 : 12 ≤ op ∧ op ≤ 18
        · have e1 : sg op = (2, 2, 0, 3) := by unfold sg; rw [if_neg (by omega), if_neg (by omega), if_neg (by omega), if_neg (by omega), if_pos g6]
          have e2 : sortOf op = (4, 2) := by unfold sortOf; rw [if_neg (by omega), if_neg (by omega), if_neg (by omega), if_neg (by omega), if_pos g6]
          rw [e1, e2]
          by_cases hl2 : (l.length : Int) = 2
          · obtain ⟨x, y, rfl⟩ := htwo hl2
            have e3 : ¬ op = 25 := by omega
            have e4 : agree 0 x = true := by rw [agree_iff]; omega
            have e5 : com 0 [x, y] = if agree x y then some (if x = 0 then y else x) else none := by
              simp only [com, e4, if_true]
            simp only [e3, if_false, kindOf, com3, e5]
            simp
            cases agree x y <;> simp
          · simp [hl2]; omega
        by_cases g7 : op = 10
        · subst g7
          by_cases hl2 : (l.length : Int) = 2
          · simp only [show sg 10 = (2, 2, 2, 2) from rfl, show sortOf 10 = (2, 2) from rfl, hl2, com_all (show (2 : Int) ≠ 0 by decide), kindOf]
            cases hq : allAg l 2 <;> simp [com3, hq]
          · simp [sg, sortOf, hl2]; omega
        · have : op = 19 := by omega
          subst this
          by_cases hl2 : (l.length : Int) = 2
          · simp only [show sg 19 = (2, 2, 2, 3) from rfl, show sortOf 19 = (5, 2) from rfl, hl2, com_all (show (2 : Int) ≠ 0 by decide), kindOf]
            cases hq : allAg l 2 <;> simp [com3, hq]
          · simp [sg, sortOf, hl2]; omega
    · have hh : has op = false := by simp [has, ho]
      have hs : sortOf op = (0, 0) := by
        unfold sortOf
        repeat (rw [if_neg (by omega)])
      rw [hh, hs]; simp
end Go.Proofs.YtdbhencjomnjhaaGreatDoor.K
namespace Go.Proofs.YtdbhencjomnjhaaGreatDoor.K
open Go.ChangeShapes Go.WideShapes Go.ChangeAt Go.RowKit Go.Proofs.YtdbhencjomnjhaaGreatDoor.V
def comV : Option Int → Value
  | some k => .tuple #[.int .u8 k, .bool true]
  | none => .tuple #[.int .u8 0, .bool false]
theorem com_drop {l : List Int} {k : Nat} {x : Int} (h : l[k]? = some x) (o : Int) : com o (l.drop k) = if agree o x then com (if o = 0 then x else o) (l.drop (k + 1)) else none := by
  rw [List.drop_eq_getElem_cons (List.getElem?_eq_some_iff.1 h).1, com, (List.getElem?_eq_some_iff.1 h).2]
theorem com_end {l : List Int} {k : Nat} (h : l.length ≤ k) (o : Int) : com o (l.drop k) = some o := by rw [List.drop_eq_nil_of_le h]; rfl
theorem ret_com {r r' : Option Int} (h : r = r') : Ending.returned (comV r) = .returned (comV r') := by rw [h]
set_option maxHeartbeats 1000000 in
theorem c_common (o0 : Int) (a : Option Addr) (n c : Nat) (l : List Int) (hn : n ≤ 9223372036854775807) (w : World) (h : One kI w a n l) : Ret 26 #[.int .u8 o0, .slice a n c] w (comV (com o0 l)) := by
  have HL := Lib.hid h
  clear h
  go_enter Tryz.func26, Tryz.ntmps26
  go_wp2
  go_loopw [0, 10] (fun s0 s10 wr => ∃ (k : Nat) (o : Int), k ≤ n ∧ s0 = .int .u8 o ∧ s10 = .int .i64 k ∧ Hid (com o (l.drop k) = com o0 l) ∧ Hid (Below w.heap.size w wr)) (fun _ s10 _ => n - (intOf s10).toNat)
  case atStart => exact ⟨0, o0, by omega, rfl, rfl, rfl, Below.refl _ _⟩
  case round =>
    obtain ⟨k, o, hk, rfl, rfl, HI, HB⟩ := hrel
    by_cases hlt : k < n
    · obtain ⟨g, p, x, rfl, hlk, hg, c0⟩ := (HL.out.below HB.out).at_ k hlt
      have HI2 := Lib.hid ((com_drop hlk o).symm.trans HI.out)
      clear HI hlk
      by_cases h0 : o = 0
      · subst h0
        have HI3 : Hid (com x (l.drop (k + 1)) = com o0 l) := by
          have e := HI2.out
          rw [if_pos (by rw [agree_iff]; omega), if_pos rfl] at e
          exact e
        have e1 : (x != x) = false := by simp
        clear HI2
        go_wp2
        all_goals
          refine ⟨⟨k + 1, _, by omega, rfl, by go_num, ?_, HB.out⟩, by simp [intOf]; omega⟩
          first | exact HI3.out | (have hx0 : x = 0 := by assumption
                                   have := HI3.out; rw [hx0] at this; exact this)
      · have e0 : (o == 0) = false := by simpa using h0
        by_cases hx : x = 0 ∨ x = o
        · have HI3 : Hid (com o (l.drop (k + 1)) = com o0 l) := by
            have e := HI2.out
            rw [if_pos (by rw [agree_iff]; omega), if_neg h0] at e
            exact e
          have e1 : (x != 0 && x != o) = false := by rcases hx with rfl | rfl <;> simp
          clear HI2
          rcases hx with rfl | rfl
          · go_wp2
            all_goals exact ⟨⟨k + 1, o, by omega, rfl, by go_num, HI3.out, HB.out⟩, by simp [intOf]; omega⟩
          · have e2 : (x != x) = false := by simp
            go_wp2
            all_goals exact ⟨⟨k + 1, x, by omega, rfl, by go_num, HI3.out, HB.out⟩, by simp [intOf]; omega⟩
        · have HI3 : Hid (none = com o0 l) := by
            have e := HI2.out
            rw [if_neg (by rw [agree_iff]; omega)] at e
            exact e
          have e1 : (x != 0) = true := by simp; omega
          have e2 : (x != o) = true := by simp; omega
          clear HI2 hx h0
          go_wp2
          go_ret2
          exact ⟨ret_com (r := none) HI3.out, HB.out⟩
    · have he : com o0 l = some o := by rw [← HI.out, com_end (by have := HL.out.len; omega)]
      have HE := Lib.hid he
      clear he HI
      go_wp2
      go_ret2
      exact ⟨ret_com (r := some o) HE.out.symm, HB.out⟩
theorem all_drop {l : List Int} {k : Nat} {x : Int} (h : l[k]? = some x) (z : Int) : allAg (l.drop k) z = (agree x z && allAg (l.drop (k + 1)) z) := by
  rw [List.drop_eq_getElem_cons (List.getElem?_eq_some_iff.1 h).1, allAg, List.all_cons, (List.getElem?_eq_some_iff.1 h).2]; rfl
theorem all_end {l : List Int} {k : Nat} (h : l.length ≤ k) (z : Int) : allAg (l.drop k) z = true := by rw [List.drop_eq_nil_of_le h]; rfl
set_option maxHeartbeats 1000000 in
theorem l_IndexKind (F : Nat) (ca : Array Value) (HE : EntersF F) (p : Int → Bool) (a : Option Addr) (n c : Nat) (l : List Int) (hn : n ≤ 9223372036854775807) (w : World) (h : One kI w a n l)
    (hF : ∀ o ∈ l, ∀ w', Below w.heap.size w w' → Ret F (#[kI o] ++ ca) w' (.bool (p o))) : Ret 49 #[.slice a n c, .func (.func F) #[] ca] w (.int .i64 (idx p l 0)) := by
  have HL := Lib.hid h
  have HP := Lib.hid hF
  clear h hF
  go_enter Tryz.func49, Tryz.ntmps49
  go_wp2
  go_loopw [8] (fun s8 wr => ∃ (k : Nat), k ≤ n ∧ s8 = .int .i64 k ∧ Hid (idx p (l.drop k) k = idx p l 0) ∧ Hid (Below w.heap.size w wr)) (fun s8 _ => n - (intOf s8).toNat)
  case atStart => exact ⟨0, by omega, rfl, rfl, Below.refl _ _⟩
  case round =>
    obtain ⟨k, hk, rfl, HI, HB⟩ := hrel
    by_cases hlt : k < n
    · obtain ⟨g, q, o, rfl, hlk, hg, c0⟩ := (HL.out.below HB.out).at_ k hlt
      have HI2 := Lib.hid ((idx_drop hlk k).symm.trans HI.out)
      have hx := HP.out o (List.mem_of_getElem? hlk)
      clear HI hlk
      go_wp2_with fail
      refine (hx _ HB.out).mono ?_
      rintro e w1 ⟨rfl, hb1⟩
      have HB1 := Lib.hid (bel_trans HB.out hb1)
      clear hb1 hx
      cases hp : p o with
      | true =>
        rw [hp, if_pos rfl] at HI2
        clear hp
        go_wp2
        go_ret
        exact ⟨ret_int HI2.out, HB1.out⟩
      | false =>
        rw [hp, if_neg (by simp)] at HI2
        clear hp
        go_wp2
        refine ⟨⟨k + 1, by omega, by go_num, HI2.out, HB1.out⟩, by simp [intOf]; omega⟩
    · have he : idx p l 0 = -1 := by rw [← HI.out, idx_end (by have := HL.out.len; omega)]
      have HE := Lib.hid he
      clear he HI
      go_wp2
      go_ret
      exact ⟨ret_int HE.out.symm, HB.out⟩
theorem c_isNone (k : Int) (w : World) : Ret 23 #[.int .u8 k] w (.bool (decide (k > 3))) := by
  go_enter Tryz.func23, Tryz.ntmps23
  go_wp2
  all_goals (go_ret; exact ⟨ret_bool (by first | rfl | simp_all), by repeat (first | exact Below.refl _ _ | assumption | (refine bel_trans ?_ (by assumption)) | (with_reducible apply bel_alloc) | (with_reducible apply Below.drew) | apply bel_alloc | apply Below.drew | refine bel_set ?_ (by simp; try omega) _)⟩)
theorem l_ContainsKind (a : Option Addr) (n c : Nat) (l : List Int) (hn : n ≤ 9223372036854775807) (w : World) (h : One kI w a n l) : Ret 24 #[.slice a n c, .func (.func 23) #[] #[]] w (.bool (l.any (fun k => decide (k > 3)))) := by
  have HI := Lib.hid (idx_any (p := fun k : Int => decide (k > 3)) l 0)
  go_enter Tryz.func24, Tryz.ntmps24
  go_wp2_with fail
  refine (l_IndexKind 23 #[] (fun _ _ => by kernel_rfl) _ a n c l hn _ h (fun o _ w' _ => c_isNone o w')).mono ?_; rintro e w1 ⟨rfl, hbw1⟩; obtain ⟨hcw1, hfw1⟩ := bcell hbw1; have hzw1 := hbw1.size; (try simp [World.drew] at hzw1)
  go_wp2
  go_ret
  exact ⟨ret_bool HI.out, by repeat (first | exact Below.refl _ _ | assumption | (refine bel_trans ?_ (by assumption)) | (with_reducible apply bel_alloc) | (with_reducible apply Below.drew) | apply bel_alloc | apply Below.drew | refine bel_set ?_ (by simp; try omega) _)⟩
end Go.Proofs.YtdbhencjomnjhaaGreatDoor.K
namespace Go.Proofs.YtdbhencjomnjhaaGreatDoor.K
open Go.ChangeShapes Go.WideShapes Go.ChangeAt Go.RowKit Go.Proofs.YtdbhencjomnjhaaGreatDoor.V Go.Shelf
attribute [local go_sem] Oper.semAt_some
/-- How many chunks there are. -/
def chunks (n : Nat) : Nat := (n + 1) / 2
/-- The places of the first chunks. -/
def firsts (n k : Nat) : List (Fin (chunks n)) := (List.finRange (chunks n)).take k
theorem firsts_succ {n k : Nat} (h : k < chunks n) : firsts n (k + 1) = firsts n k ++ [⟨k, h⟩] := by
  unfold firsts
  rw [List.take_succ_eq_append_getElem (by simpa using h)]
  simp
theorem firsts_all {n k : Nat} (h : chunks n ≤ k) : firsts n k = List.finRange (chunks n) := by
  unfold firsts
  exact List.take_of_length_le (by simpa using h)
/-- The iterator's own boxes are as they were. -/
def Kept (Bs Bn : Nat) (A B : World) : Prop := B.cell? ⟨Bs, 0, none⟩ = A.cell? ⟨Bs, 0, none⟩ ∧ B.cell? ⟨Bn, 0, none⟩ = A.cell? ⟨Bn, 0, none⟩
theorem kept_t {Bs Bn : Nat} {A B C : World} (h : Kept Bs Bn A B) (k : Kept Bs Bn B C) : Kept Bs Bn A C := ⟨k.1.trans h.1, k.2.trans h.2⟩
theorem kept_b {Bs Bn : Nat} {w : World} (h1 : Bs < w.heap.size) (h2 : Bn < w.heap.size) (W : World) (l : Nat) (o o' : Obj) (hl : w.heap.size ≤ l) (_ : W.heap[l]? = some o) (_ : o.isCells = false) (_ : o.isWalk = false) : Kept Bs Bn W (W.putObj l o') :=
  ⟨World.cell?_of_block (World.putObj_heap_other (by show Bs ≠ l; omega)), World.cell?_of_block (World.putObj_heap_other (by show Bn ≠ l; omega))⟩
def wid (n k : Nat) : Nat := min 2 (n - 2 * k)
set_option maxRecDepth 100000 in
set_option maxHeartbeats 2000000 in
theorem chunkK_in (f : Nat) (hn1 : 1 ≤ f) (l Bs Bn g p n c : Nat) (hnc : n ≤ c) (hc : c ≤ 9223372036854775807) (hsz : n ≤ 140737488351232) (a : Option Addr) (ha : 0 < n → a = some ⟨g, p, none⟩)
    (J Jx : List (Fin (chunks n)) → World → Prop) (hD : ∀ s W m, J s W → J s (World.drewN W m))
    (hY : ∀ pre (x : Fin (chunks n)) W, J pre W → pre.length < chunks n → YieldAt Fence.wide (f - 1) Tryz.prog l #[.slice (some ⟨g, p + 2 * x.val, none⟩) (wid n x.val) (wid n x.val)] W fun e W' =>
      (e = .returned (.bool true) ∧ J (pre ++ [x]) W' ∧ Kept Bs Bn W W') ∨ (e = .returned (.bool false) ∧ Jx (pre ++ [x]) W'))
    (W : World) (hBs : W.cell? ⟨Bs, 0, none⟩ = some (.slice a n c)) (hBn : W.cell? ⟨Bn, 0, none⟩ = some (.int .i64 2)) (h0 : J [] W) :
    CallsIn Fence.wide f Tryz.prog 65 #[.func (.yield l) #[] #[], .pointer (some ⟨Bs, 0, none⟩), .pointer (some ⟨Bn, 0, none⟩)] W fun e W' => (∃ v, e = .returned v) ∧
      ((∃ ys, ys = List.finRange (chunks n) ∧ J ys W') ∨ (∃ k, Jx (firsts n k) W')) := by
  have HY := Lib.hid hY
  have HD := Lib.hid hD
  clear hY hD
  refine callsIn_of_wp Tryz.func65 rfl trivial ?_ rfl
  simp only [Tryz.ntmps65, List.size_toArray, List.length_cons, List.length_nil, Nat.reduceAdd, Nat.reduceSub, Array.replicate_succ, Array.replicate_zero, List.push_toArray, List.append_toArray, List.nil_append, List.cons_append]
  gi_wp2
  gi_loopw [4] (fun s4 wr => ∃ (k : Nat), k ≤ chunks n ∧ s4 = .int .i64 ((2 * k : Nat) : Int) ∧ Hid (J (firsts n k) wr) ∧ wr.cell? ⟨Bs, 0, none⟩ = some (.slice a n c) ∧ wr.cell? ⟨Bn, 0, none⟩ = some (.int .i64 2))
    (fun s4 _ => n + 2 - (intOf s4).toNat)
  case atStart => exact ⟨0, by omega, rfl, h0, hBs, hBn⟩
  case round =>
    obtain ⟨k, hk, rfl, HJ, hbs, hbn⟩ := hrel
    unfold chunks at hk
    by_cases hlt : 2 * k < n
    · obtain rfl := ha (by omega)
      have hkc : k < chunks n := by unfold chunks; omega
      have hw : (2 * (k : Int) + min 2 ((n - 2 * k : Nat) : Int)).toNat - 2 * k = wid n k := by unfold wid; omega
      have hfl : (firsts n k).length < chunks n := by unfold firsts; simp; omega
      gi_wp2
      gi_quiet (fail)
      obtain ⟨fn, tmps, assign, body, hy, hR⟩ := HY.out (firsts n k) ⟨k, hkc⟩ (wr.drewN nq) (HD.out _ _ nq HJ.out) hfl
      gi_wp2
      refine hR.mono ?_
      rintro e W3 (⟨rfl, hJ3, hk3⟩ | ⟨rfl, hJx3⟩)
      · have HJ3 : Hid (J (firsts n (k + 1)) W3) := by rw [firsts_succ hkc]; exact hJ3
        have hbs3 : W3.cell? ⟨Bs, 0, none⟩ = some (.slice (some ⟨g, p, none⟩) n c) := hk3.1.trans hbs
        have hbn3 : W3.cell? ⟨Bn, 0, none⟩ = some (.int .i64 2) := hk3.2.trans hbn
        clear hJ3 HJ hk3
        gi_wp2
        go_roundw
        case rel => exact ⟨k + 1, by omega, by go_num, HJ3.out, hbs3, hbn3⟩
        case measure => simp [intOf]; omega
      · have HX3 : Hid (Jx (firsts n (k + 1)) W3) := by rw [firsts_succ hkc]; exact hJx3
        clear HJ
        gi_wp2
        refine bodyPost_ret (results_none rfl _ _ _) rfl ?_
        exact ⟨⟨_, rfl⟩, .inr ⟨_, HX3.out⟩⟩
    · have e : decide (((2 * k : Nat) : Int) < (n : Int)) = false := by simp; omega
      have e2 : firsts n k = List.finRange (chunks n) := firsts_all (by unfold chunks; omega)
      have HJ2 : Hid (J (List.finRange (chunks n)) wr) := e2 ▸ HJ.out
      clear HJ e2
      gi_wp2
      go_end0
      exact ⟨⟨_, rfl⟩, .inl ⟨_, rfl, HJ2.out⟩⟩
end Go.Proofs.YtdbhencjomnjhaaGreatDoor.K
namespace Go.Proofs.YtdbhencjomnjhaaGreatDoor.V
open Go.RowKit Go.Shelf
section
variable {n : Nat} {P : Program} {ops : Array Oper} {Q : Exit → Act → World → Prop} {md : Region.Mode} {l : Nat}
theorem oper_round {o : Oper} {a : Act} {w : World} {K : Act → World → Prop} (hnd : ∀ c, o.op ≠ .defer c) (h : o.wpIn Fence.wide n P a w K Q) : o.wpIn (Fence.wide.inRound l) n P a w K Q := by
  obtain ⟨h1, h2⟩ := h
  refine ⟨h1, ?_⟩
  have e : o.semAt (Fence.wide.inRound l).round a.eval = o.semAt Fence.wide.round a.eval := (Oper.semAt_eq _ _ o hnd).trans (Oper.semAt_eq _ _ o hnd).symm
  rw [e]
  exact h2
theorem op_round {i : Nat} {a : Act} {w : World} {K : Act → World → Prop} (hnd : ∀ (i : Nat) o, ops[i]? = some o → ∀ c, o.op ≠ .defer c) (h : wpOpIn Fence.wide n P ops Q i K a w) : wpOpIn (Fence.wide.inRound l) n P ops Q i K a w := by
  unfold wpOpIn at h ⊢
  cases ho : ops[i]? with
  | none => rw [ho] at h; exact h
  | some o =>
    rw [ho] at h
    simp only at h ⊢
    split
    · rename_i hw
      rw [if_pos hw] at h
      exact oper_round (hnd i o ho) h
    · rename_i hw
      rw [if_neg hw] at h
      exact h
theorem any_round (hnd : ∀ (i : Nat) o, ops[i]? = some o → ∀ c, o.op ≠ .defer c) : ∀ (fuel : Nat) (listed : Array Bool) (a : Act) (w : World), wpAnyIn Fence.wide n P md ops Q fuel listed a w → wpAnyIn (Fence.wide.inRound l) n P md ops Q fuel listed a w
  | 0, _, _, _, h => h
  | fuel + 1, _, _, _, h => ⟨h.1, fun i hi => op_round hnd (wpOpIn_mono (fun _ _ => any_round hnd fuel _ _ _) (h.2 i hi))⟩
theorem region_round {id : Nat} {a : Act} {w : World} (hm : P.follows .mixedOrders = true) (hnd : ∀ (i : Nat) o, ops[i]? = some o → ∀ c, o.op ≠ .defer c)
    (h : wpAnyIn Fence.wide n P .any ops Q ops.size (Array.replicate ops.size false) a w.drew) : (Code.region id ops true).wpIn (Fence.wide.inRound l) n P Q a w :=
  wpIn_region_any hm (any_round hnd _ _ _ _ h)
def noDefer (ops : Array Oper) : Bool := ops.all fun o => match o.op with | .defer _ => false | _ => true
theorem noDefer_spec (h : noDefer ops = true) : ∀ (i : Nat) o, ops[i]? = some o → ∀ c, o.op ≠ .defer c := by
  intro i o ho c e
  have := (Array.all_eq_true_iff_forall_mem.1 h) o (Array.mem_of_getElem? ho)
  rw [e] at this
  cases this
end
end Go.Proofs.YtdbhencjomnjhaaGreatDoor.V
