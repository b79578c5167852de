/- Lists of outs and of kinds in memory, and the loops that ask them. -/
import Derived.Test.YtefelelhgepkeaaGreatDoorKe
import Derived.IntWalk
namespace Go.Proofs.YtefelelhgepkeaaGreatDoor.K
open Go.ChangeShapes Go.WideShapes Go.ChangeAt Go.RowKit Go.Proofs.YtefelelhgepkeaaGreatDoor.V
/-- A slice reads as these outs. -/
structure Outs (W : World) (a : Option Addr) (n : Nat) (l : List Ot) : Prop where
  len : n = l.length
  at_ : ∀ k, k < n → ∃ g p o, a = some ⟨g, p, none⟩ ∧ l[k]? = some o ∧ g < W.heap.size ∧ W.cell? ⟨g, p + k * 4, none⟩ = some (.int .u8 o.k) ∧ W.cell? ⟨g, p + k * 4 + 1, none⟩ = some (.int .i64 o.n) ∧ W.cell? ⟨g, p + k * 4 + 2, none⟩ = some (.string o.s) ∧ W.cell? ⟨g, p + k * 4 + 3, none⟩ = some (.int .i64 o.e)
theorem Outs.below {w w' : World} {a : Option Addr} {n : Nat} {l : List Ot} (h : Outs w a n l) (hb : Below w.heap.size w w') : Outs w' a n l :=
  ⟨h.len, fun k hk => by
    obtain ⟨g, p, o, h1, h2, h3, h4, h5, h6, h7⟩ := h.at_ k hk
    exact ⟨g, p, o, h1, h2, Nat.lt_of_lt_of_le h3 hb.size, (hb.cell (p := ⟨g, _, none⟩) h3).trans h4, (hb.cell (p := ⟨g, _, none⟩) h3).trans h5, (hb.cell (p := ⟨g, _, none⟩) h3).trans h6, (hb.cell (p := ⟨g, _, none⟩) h3).trans h7⟩⟩
/-- The least error. -/
theorem errs_drop {l : List Ot} {k : Nat} {o : Ot} (h : l[k]? = some o) (e : Int) : errs e (l.drop k) = errs (lst e o.e) (l.drop (k + 1)) := by
  rw [List.drop_eq_getElem_cons (List.getElem?_eq_some_iff.1 h).1, errs, (List.getElem?_eq_some_iff.1 h).2]
theorem errs_end {l : List Ot} {k : Nat} (h : l.length ≤ k) (e : Int) : errs e (l.drop k) = e := by rw [List.drop_eq_nil_of_le h]; rfl
set_option maxHeartbeats 1000000 in
theorem c_least (a : Option Addr) (n c : Nat) (l : List Ot) (hn : n ≤ 9223372036854775807) (w : World) (h : Outs w a n l) : Ret 62 #[.slice a n c] w (.int .i64 (errs 0 l)) := by
  have HL := Lib.hid h
  clear h
  go_enter Tryz.func62, Tryz.ntmps62
  go_wp2
  go_loopw [3, 8] (fun s3 s8 wr => ∃ (k : Nat) (e : Int), k ≤ n ∧ s3 = .int .i64 e ∧ s8 = .int .i64 k ∧ Hid (errs e (l.drop k) = errs 0 l) ∧ Hid (Below w.heap.size w wr)) (fun _ s8 _ => n - (intOf s8).toNat)
  case atStart => exact ⟨0, 0, by omega, rfl, rfl, rfl, Below.refl _ _⟩
  case round =>
    obtain ⟨k, e, hk, rfl, rfl, HI, HB⟩ := hrel
    by_cases hlt : k < n
    · obtain ⟨g, p, o, rfl, hlk, hg, c0, c1, c2, c3⟩ := (HL.out.below HB.out).at_ k hlt
      have HI2 : Hid (errs (lst e o.e) (l.drop (k + 1)) = errs 0 l) := (errs_drop hlk e).symm.trans HI.out
      clear HI hlk
      go_wp2
      all_goals
        refine ⟨⟨k + 1, _, by omega, rfl, by go_num, ?_, bel_alloc HB.out _⟩, by simp [intOf]; omega⟩
        show errs _ _ = _
        rw [← HI2.out]
        congr 1
        unfold lst
        split <;> (simp_all; try omega)
    · have he : errs 0 l = e := by rw [← HI.out, errs_end (by have := HL.out.len; omega)]
      have HE := Lib.hid he
      clear he HI
      go_wp2
      go_ret
      exact ⟨ret_int HE.out.symm, HB.out⟩
/-- The first that a predicate takes. -/
def idx {α : Type} (p : α → Bool) : List α → Nat → Int
  | [], _ => -1
  | x :: t, k => if p x then k else idx p t (k + 1)
theorem idx_drop {α : Type} {p : α → Bool} {l : List α} {k : Nat} {o : α} (h : l[k]? = some o) (i : Nat) : idx p (l.drop k) i = if p o then (i : Int) else idx p (l.drop (k + 1)) (i + 1) := by
  rw [List.drop_eq_getElem_cons (List.getElem?_eq_some_iff.1 h).1, idx, (List.getElem?_eq_some_iff.1 h).2]
theorem idx_end {α : Type} {p : α → Bool} {l : List α} {k : Nat} (h : l.length ≤ k) (i : Nat) : idx p (l.drop k) i = -1 := by rw [List.drop_eq_nil_of_le h]; rfl
theorem idx_any {α : Type} {p : α → Bool} : ∀ (l : List α) (k : Nat), decide (idx p l k ≥ 0) = l.any p
  | [], k => rfl
  | x :: t, k => by
    rw [idx, List.any_cons]
    cases p x with
    | true => simp
    | false => simpa using idx_any t (k + 1)
/-- A function value is entered. -/
abbrev EntersF (F : Nat) : Prop := ∀ (args : Array Value) (w : World), (callFunc F args).run Tryz.prog w = .ok (.enter F args) w
set_option maxHeartbeats 1000000 in
theorem l_IndexOut (F : Nat) (ca : Array Value) (HE : EntersF F) (p : Ot → Bool) (a : Option Addr) (n c : Nat) (l : List Ot) (hn : n ≤ 9223372036854775807) (w : World) (h : Outs w a n l)
    (hF : ∀ o ∈ l, ∀ w', Below w.heap.size w w' → Ret F (#[enc o] ++ ca) w' (.bool (p o))) : Ret 87 #[.slice a n c, .func (.func F) #[] ca] w (.int .i64 (idx p l 0)) := by
  have HL := Lib.hid h
  have HP := Lib.hid hF
  clear h hF
  go_enter Tryz.func87, Tryz.ntmps87
  go_wp2
  go_loopw [8] (fun s8 wr => ∃ (k : Nat), k ≤ n ∧ s8 = .int .i64 k ∧ Hid (idx p (l.drop k) k = idx p l 0) ∧ Hid (Below w.heap.size w wr)) (fun s8 _ => n - (intOf s8).toNat)
  case atStart => exact ⟨0, by omega, rfl, rfl, Below.refl _ _⟩
  case round =>
    obtain ⟨k, hk, rfl, HI, HB⟩ := hrel
    by_cases hlt : k < n
    · obtain ⟨g, q, o, rfl, hlk, hg, c0, c1, c2, c3⟩ := (HL.out.below HB.out).at_ k hlt
      have HI2 := Lib.hid ((idx_drop hlk k).symm.trans HI.out)
      have hx := HP.out o (List.mem_of_getElem? hlk)
      clear HI hlk
      go_wp2_with fail
      refine (hx _ HB.out).mono ?_
      rintro e w1 ⟨rfl, hb1⟩
      have HB1 := Lib.hid (bel_trans HB.out hb1)
      clear hb1 hx
      cases hp : p o with
      | true =>
        rw [hp, if_pos rfl] at HI2
        clear hp
        go_wp2
        go_ret
        exact ⟨ret_int HI2.out, HB1.out⟩
      | false =>
        rw [hp, if_neg (by simp)] at HI2
        clear hp
        go_wp2
        refine ⟨⟨k + 1, by omega, by go_num, HI2.out, HB1.out⟩, by simp [intOf]; omega⟩
    · have he : idx p l 0 = -1 := by rw [← HI.out, idx_end (by have := HL.out.len; omega)]
      have HE := Lib.hid he
      clear he HI
      go_wp2
      go_ret
      exact ⟨ret_int HE.out.symm, HB.out⟩
end Go.Proofs.YtefelelhgepkeaaGreatDoor.K
