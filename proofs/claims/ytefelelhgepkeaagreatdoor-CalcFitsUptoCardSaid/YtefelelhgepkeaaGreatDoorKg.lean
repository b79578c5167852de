/- Whether outs are valid. -/
import Derived.Test.YtefelelhgepkeaaGreatDoorKf
namespace Go.Proofs.YtefelelhgepkeaaGreatDoor.K
open Go.ChangeShapes Go.WideShapes Go.ChangeAt Go.RowKit Go.Proofs.YtefelelhgepkeaaGreatDoor.V
/-- A slice of one cell an element reads as this list. -/
structure One {α : Type} (f : α → Value) (W : World) (a : Option Addr) (n : Nat) (l : List α) : Prop where
  len : n = l.length
  at_ : ∀ k, k < n → ∃ g p x, a = some ⟨g, p, none⟩ ∧ l[k]? = some x ∧ g < W.heap.size ∧ W.cell? ⟨g, p + k, none⟩ = some (f x)
theorem One.below {α : Type} {f : α → Value} {w w' : World} {a : Option Addr} {n : Nat} {l : List α} (h : One f w a n l) (hb : Below w.heap.size w w') : One f w' a n l :=
  ⟨h.len, fun k hk => by
    obtain ⟨g, p, o, h1, h2, h3, h4⟩ := h.at_ k hk
    exact ⟨g, p, o, h1, h2, Nat.lt_of_lt_of_le h3 hb.size, (hb.cell (p := ⟨g, _, none⟩) h3).trans h4⟩⟩
abbrev eI (e : Int) : Value := .int .i64 e
abbrev kI (e : Int) : Value := .int .u8 e
set_option maxHeartbeats 1000000 in
theorem l_IndexErr (x : Int) (a : Option Addr) (n c : Nat) (l : List Int) (hn : n ≤ 9223372036854775807) (w : World) (h : One eI w a n l) : Ret 130 #[.slice a n c, .int .i64 x] w (.int .i64 (idx (x == ·) l 0)) := by
  have HL := Lib.hid h
  clear h
  go_enter Tryz.func130, Tryz.ntmps130
  go_wp2
  go_loopw [8] (fun s8 wr => ∃ (k : Nat), k ≤ n ∧ s8 = .int .i64 k ∧ Hid (idx (x == ·) (l.drop k) k = idx (x == ·) l 0) ∧ Hid (Below w.heap.size w wr)) (fun s8 _ => n - (intOf s8).toNat)
  case atStart => exact ⟨0, by omega, rfl, rfl, Below.refl _ _⟩
  case round =>
    obtain ⟨k, hk, rfl, HI, HB⟩ := hrel
    by_cases hlt : k < n
    · obtain ⟨g, q, o, rfl, hlk, hg, c0⟩ := (HL.out.below HB.out).at_ k hlt
      have HI2 : Hid ((if (x == o) = true then (k : Int) else idx (x == ·) (l.drop (k + 1)) (k + 1)) = idx (x == ·) l 0) := (idx_drop hlk k).symm.trans HI.out
      clear HI hlk
      cases hp : (x == o) with
      | true =>
        rw [hp, if_pos rfl] at HI2
        go_wp2
        go_ret
        exact ⟨ret_int HI2.out, HB.out⟩
      | false =>
        rw [hp, if_neg (by simp)] at HI2
        go_wp2
        refine ⟨⟨k + 1, by omega, by go_num, HI2.out, HB.out⟩, by simp [intOf]; omega⟩
    · have he : idx (x == ·) l 0 = -1 := by rw [← HI.out, idx_end (by have := HL.out.len; omega)]
      have HE := Lib.hid he
      clear he HI
      go_wp2
      go_ret
      exact ⟨ret_int HE.out.symm, HB.out⟩
theorem l_ContainsErr (x : Int) (a : Option Addr) (n c : Nat) (l : List Int) (hn : n ≤ 9223372036854775807) (w : World) (h : One eI w a n l) : Ret 115 #[.slice a n c, .int .i64 x] w (.bool (l.any (x == ·))) := by
  have HI := Lib.hid (idx_any (p := (x == ·)) l 0)
  go_enter Tryz.func115, Tryz.ntmps115
  go_wp2_with fail
  refine (l_IndexErr x a n c l hn _ h).mono ?_; rintro e w1 ⟨rfl, hbw1⟩; obtain ⟨hcw1, hfw1⟩ := bcell hbw1; have hzw1 := hbw1.size; (try simp [World.drew] at hzw1)
  go_wp2
  go_ret
  exact ⟨ret_bool HI.out, by repeat (first | exact Below.refl _ _ | assumption | (refine bel_trans ?_ (by assumption)) | (with_reducible apply bel_alloc) | (with_reducible apply Below.drew) | apply bel_alloc | apply Below.drew | refine bel_set ?_ (by simp; try omega) _)⟩
theorem four_err (b : Nat) (W : World) (hb : b < W.heap.size) (h0 : W.cell? ⟨b, 0, none⟩ = some (.int .i64 3)) (h1 : W.cell? ⟨b, 1, none⟩ = some (.int .i64 4)) (h2 : W.cell? ⟨b, 2, none⟩ = some (.int .i64 5)) (h3 : W.cell? ⟨b, 3, none⟩ = some (.int .i64 6)) :
    One eI W (some ⟨b, 0, none⟩) 4 [3, 4, 5, 6] :=
  ⟨rfl, fun k hk => by
    have : k = 0 ∨ k = 1 ∨ k = 2 ∨ k = 3 := by omega
    rcases this with rfl | rfl | rfl | rfl
    · exact ⟨b, 0, 3, rfl, rfl, hb, h0⟩
    · exact ⟨b, 0, 4, rfl, rfl, hb, h1⟩
    · exact ⟨b, 0, 5, rfl, rfl, hb, h2⟩
    · exact ⟨b, 0, 6, rfl, rfl, hb, h3⟩⟩
theorem c_isFailure (e : Int) (w : World) : Ret 92 #[.int .i64 e] w (.bool (isErr e)) := by
  go_enter Tryz.func92, Tryz.ntmps92
  go_wp2_with fail
  refine (l_ContainsErr e _ _ _ [3, 4, 5, 6] (by decide) _ (four_err _ _ (by simp) (by simp [go_sem]) (by simp [go_sem]) (by simp [go_sem]) (by simp [go_sem]))).mono ?_; rintro e w1 ⟨rfl, hbw1⟩; obtain ⟨hcw1, hfw1⟩ := bcell hbw1; have hzw1 := hbw1.size; (try simp [World.drew] at hzw1)
  go_wp2
  go_ret
  exact ⟨ret_bool (by simp [isErr, Bool.or_assoc]), by repeat (first | exact Below.refl _ _ | assumption | (refine bel_trans ?_ (by assumption)) | (with_reducible apply bel_alloc) | (with_reducible apply Below.drew) | apply bel_alloc | apply Below.drew | refine bel_set ?_ (by simp; try omega) _)⟩
theorem c_isValid (o : Ot) (w : World) : Ret 60 #[enc o] w (.bool o.ok) := by
  cases he : isErr o.e with
  | true =>
    have hx : (o.e = 0) = False := by simp; intro h; rw [h] at he; cases he
    go_enter Tryz.func60, Tryz.ntmps60
    go_wp2_with fail
    refine (c_isFailure _ _).mono ?_; rintro e w1 ⟨rfl, hbw1⟩; obtain ⟨hcw1, hfw1⟩ := bcell hbw1; have hzw1 := hbw1.size; (try simp [World.drew] at hzw1)
    rw [he]
    go_wp2
    all_goals (go_ret; exact ⟨ret_bool (by simp [Ot.ok, hx, he, ba_nil', *]), by repeat (first | exact Below.refl _ _ | assumption | (refine bel_trans ?_ (by assumption)) | (with_reducible apply bel_alloc) | (with_reducible apply Below.drew) | apply bel_alloc | apply Below.drew | refine bel_set ?_ (by simp; try omega) _)⟩)
  | false =>
    by_cases h0 : o.e = 0
    · go_enter Tryz.func60, Tryz.ntmps60
      go_wp2_with fail
      refine (c_isFailure _ _).mono ?_; rintro e w1 ⟨rfl, hbw1⟩; obtain ⟨hcw1, hfw1⟩ := bcell hbw1; have hzw1 := hbw1.size; (try simp [World.drew] at hzw1)
      rw [show isErr 0 = false from rfl]
      go_wp2_with (go_at_call 94; refine (c_Valid _ _ _ _).mono ?_; rintro e w2 ⟨rfl, hbw2⟩; obtain ⟨hcw2, hfw2⟩ := bcell hbw2; have hzw2 := hbw2.size; (try simp [World.drew] at hzw2))
      all_goals (go_ret; exact ⟨ret_bool (by simp [Ot.ok, h0, valid_is]), by repeat (first | exact Below.refl _ _ | assumption | (refine bel_trans ?_ (by assumption)) | (with_reducible apply bel_alloc) | (with_reducible apply Below.drew) | apply bel_alloc | apply Below.drew | refine bel_set ?_ (by simp; try omega) _)⟩)
    · go_enter Tryz.func60, Tryz.ntmps60
      go_wp2_with fail
      refine (c_isFailure _ _).mono ?_; rintro e w1 ⟨rfl, hbw1⟩; obtain ⟨hcw1, hfw1⟩ := bcell hbw1; have hzw1 := hbw1.size; (try simp [World.drew] at hzw1)
      rw [he]
      go_wp2_with (go_at_call 94; refine (c_Valid _ _ _ _).mono ?_; rintro e w2 ⟨rfl, hbw2⟩; obtain ⟨hcw2, hfw2⟩ := bcell hbw2; have hzw2 := hbw2.size; (try simp [World.drew] at hzw2))
      all_goals (go_ret; exact ⟨ret_bool (by simp [Ot.ok, h0, he]), by repeat (first | exact Below.refl _ _ | assumption | (refine bel_trans ?_ (by assumption)) | (with_reducible apply bel_alloc) | (with_reducible apply Below.drew) | apply bel_alloc | apply Below.drew | refine bel_set ?_ (by simp; try omega) _)⟩)
theorem r_ValidO (o : Ot) (w : World) : Ret 25 #[enc o] w (.bool o.ok) := by
  by_cases h0 : o.e = 0
  · go_enter Tryz.func25, Tryz.ntmps25
    go_wp2_with (go_at_call 29; refine (r_Valid _ _ _ _).mono ?_; rintro e w2 ⟨rfl, hbw2⟩; obtain ⟨hcw2, hfw2⟩ := bcell hbw2; have hzw2 := hbw2.size; (try simp [World.drew] at hzw2))
    all_goals (go_ret; exact ⟨ret_bool (by simp [Ot.ok, h0, valid_is]), by repeat (first | exact Below.refl _ _ | assumption | (refine bel_trans ?_ (by assumption)) | (with_reducible apply bel_alloc) | (with_reducible apply Below.drew) | apply bel_alloc | apply Below.drew | refine bel_set ?_ (by simp; try omega) _)⟩)
  · go_enter Tryz.func25, Tryz.ntmps25
    go_wp2_with (first | (go_at_call 67; refine (r_IsError _ _).mono ?_; rintro e w2 ⟨rfl, hbw2⟩; obtain ⟨hcw2, hfw2⟩ := bcell hbw2; have hzw2 := hbw2.size; (try simp [World.drew] at hzw2)) | (go_at_call 31; refine (r_Same _ _ _ _ _ _ _).mono ?_; rintro e w3 ⟨rfl, hbw3⟩; obtain ⟨hcw3, hfw3⟩ := bcell hbw3; have hzw3 := hbw3.size; (try simp [World.drew] at hzw3)))
    all_goals (go_ret; exact ⟨ret_bool (by simp [Ot.ok, h0, same, *]), by repeat (first | exact Below.refl _ _ | assumption | (refine bel_trans ?_ (by assumption)) | (with_reducible apply bel_alloc) | (with_reducible apply Below.drew) | apply bel_alloc | apply Below.drew | refine bel_set ?_ (by simp; try omega) _)⟩)
end Go.Proofs.YtefelelhgepkeaaGreatDoor.K
