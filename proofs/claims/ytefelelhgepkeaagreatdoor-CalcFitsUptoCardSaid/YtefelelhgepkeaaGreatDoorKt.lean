/- Outcomes in memory, and the program's functions about subqueries. -/
import Derived.Test.YtefelelhgepkeaaGreatDoorKg
import Derived.Test.YtefelelhgepkeaaGreatDoorKc
import Derived.Laws.EntriesVeiled
namespace Go.Proofs.YtefelelhgepkeaaGreatDoor.K
open Go.ChangeShapes Go.WideShapes Go.ChangeAt Go.RowKit Go.Proofs.YtefelelhgepkeaaGreatDoor.V
abbrev encV (v : Vl) : Value := val v.1 v.2.1 v.2.2
/-- A slice reads as these values. -/
structure Vals (W : World) (a : Option Addr) (n : Nat) (l : List Vl) : Prop where
  len : n = l.length
  at_ : ∀ k, k < n → ∃ g p o, a = some ⟨g, p, none⟩ ∧ l[k]? = some o ∧ g < W.heap.size ∧ W.cell? ⟨g, p + k * 3, none⟩ = some (.int .u8 o.1) ∧ W.cell? ⟨g, p + k * 3 + 1, none⟩ = some (.int .i64 o.2.1) ∧ W.cell? ⟨g, p + k * 3 + 2, none⟩ = some (.string o.2.2)
theorem Vals.below {w w' : World} {a : Option Addr} {n : Nat} {l : List Vl} (h : Vals w a n l) (hb : Below w.heap.size w w') : Vals w' a n l :=
  ⟨h.len, fun k hk => by
    obtain ⟨g, p, o, h1, h2, h3, h4, h5, h6⟩ := h.at_ k hk
    exact ⟨g, p, o, h1, h2, Nat.lt_of_lt_of_le h3 hb.size, (hb.cell (p := ⟨g, _, none⟩) h3).trans h4, (hb.cell (p := ⟨g, _, none⟩) h3).trans h5, (hb.cell (p := ⟨g, _, none⟩) h3).trans h6⟩⟩
/-- A row: where it lies, and what it holds. -/
abbrev Rw := (Option Addr × Nat × Nat) × List Vl
abbrev rI (x : Rw) : Value := .slice x.1.1 x.1.2.1 x.1.2.2
structure Rows2 (W : World) (a : Option Addr) (n : Nat) (l : List Rw) : Prop where
  one : One rI W a n l
  row : ∀ x ∈ l, Vals W x.1.1 x.1.2.1 x.2 ∧ x.1.2.1 ≤ 9223372036854775807
theorem Rows2.below {w w' : World} {a : Option Addr} {n : Nat} {l : List Rw} (h : Rows2 w a n l) (hb : Below w.heap.size w w') : Rows2 w' a n l := ⟨h.one.below hb, fun x hx => ⟨(h.row x hx).1.below hb, (h.row x hx).2⟩⟩
set_option maxHeartbeats 1000000 in
theorem l_IndexVal (F : Nat) (ca : Array Value) (HE : EntersF F) (p : Vl → Bool) (a : Option Addr) (n c : Nat) (l : List Vl) (hn : n ≤ 9223372036854775807) (w : World) (h : Vals w a n l)
    (hF : ∀ o ∈ l, ∀ w', Below w.heap.size w w' → Ret F (#[encV o] ++ ca) w' (.bool (p o))) : Ret 117 #[.slice a n c, .func (.func F) #[] ca] w (.int .i64 (idx p l 0)) := by
  have HL := Lib.hid h
  have HP := Lib.hid hF
  clear h hF
  go_enter Tryz.func117, Tryz.ntmps117
  go_wp2
  go_loopw [8] (fun s8 wr => ∃ (k : Nat), k ≤ n ∧ s8 = .int .i64 k ∧ Hid (idx p (l.drop k) k = idx p l 0) ∧ Hid (Below w.heap.size w wr)) (fun s8 _ => n - (intOf s8).toNat)
  case atStart => exact ⟨0, by omega, rfl, rfl, Below.refl _ _⟩
  case round =>
    obtain ⟨k, hk, rfl, HI, HB⟩ := hrel
    by_cases hlt : k < n
    · obtain ⟨g, q, o, rfl, hlk, hg, c0, c1, c2⟩ := (HL.out.below HB.out).at_ k hlt
      have HI2 := Lib.hid ((idx_drop hlk k).symm.trans HI.out)
      have hx := HP.out o (List.mem_of_getElem? hlk)
      clear HI hlk
      go_wp2_with fail
      refine (hx _ HB.out).mono ?_
      rintro e w1 ⟨rfl, hb1⟩
      have HB1 := Lib.hid (bel_trans HB.out hb1)
      clear hb1 hx
      cases hp : p o with
      | true =>
        rw [hp, if_pos rfl] at HI2
        clear hp
        go_wp2
        go_ret
        exact ⟨ret_int HI2.out, HB1.out⟩
      | false =>
        rw [hp, if_neg (by simp)] at HI2
        clear hp
        go_wp2
        refine ⟨⟨k + 1, by omega, by go_num, HI2.out, HB1.out⟩, by simp [intOf]; omega⟩
    · have he : idx p l 0 = -1 := by rw [← HI.out, idx_end (by have := HL.out.len; omega)]
      have HE := Lib.hid he
      clear he HI
      go_wp2
      go_ret
      exact ⟨ret_int HE.out.symm, HB.out⟩
theorem l_ContainsVal (F : Nat) (ca : Array Value) (HE : EntersF F) (p : Vl → Bool) (a : Option Addr) (n c : Nat) (l : List Vl) (hn : n ≤ 9223372036854775807) (w : World) (h : Vals w a n l)
    (hF : ∀ o ∈ l, ∀ w', Below w.heap.size w w' → Ret F (#[encV o] ++ ca) w' (.bool (p o))) : Ret 96 #[.slice a n c, .func (.func F) #[] ca] w (.bool (l.any p)) := by
  have HI := Lib.hid (idx_any (p := p) l 0)
  go_enter Tryz.func96, Tryz.ntmps96
  go_wp2_with fail
  refine (l_IndexVal F ca HE p a n c l hn _ h hF).mono ?_; rintro e w1 ⟨rfl, hbw1⟩; obtain ⟨hcw1, hfw1⟩ := bcell hbw1; have hzw1 := hbw1.size; (try simp [World.drew] at hzw1)
  go_wp2
  go_ret
  exact ⟨ret_bool HI.out, by repeat (first | exact Below.refl _ _ | assumption | (refine bel_trans ?_ (by assumption)) | (with_reducible apply bel_alloc) | (with_reducible apply Below.drew) | apply bel_alloc | apply Below.drew | refine bel_set ?_ (by simp; try omega) _)⟩
set_option maxHeartbeats 1000000 in
theorem l_IndexRow (F : Nat) (ca : Array Value) (HE : EntersF F) (p : Rw → Bool) (a : Option Addr) (n c : Nat) (l : List Rw) (hn : n ≤ 9223372036854775807) (w : World) (h : One rI w a n l)
    (hF : ∀ o ∈ l, ∀ w', Below w.heap.size w w' → Ret F (#[rI o] ++ ca) w' (.bool (p o))) : Ret 98 #[.slice a n c, .func (.func F) #[] ca] w (.int .i64 (idx p l 0)) := by
  have HL := Lib.hid h
  have HP := Lib.hid hF
  clear h hF
  go_enter Tryz.func98, Tryz.ntmps98
  go_wp2
  go_loopw [8] (fun s8 wr => ∃ (k : Nat), k ≤ n ∧ s8 = .int .i64 k ∧ Hid (idx p (l.drop k) k = idx p l 0) ∧ Hid (Below w.heap.size w wr)) (fun s8 _ => n - (intOf s8).toNat)
  case atStart => exact ⟨0, by omega, rfl, rfl, Below.refl _ _⟩
  case round =>
    obtain ⟨k, hk, rfl, HI, HB⟩ := hrel
    by_cases hlt : k < n
    · obtain ⟨g, q, o, rfl, hlk, hg, c0⟩ := (HL.out.below HB.out).at_ k hlt
      have HI2 := Lib.hid ((idx_drop hlk k).symm.trans HI.out)
      have hx := HP.out o (List.mem_of_getElem? hlk)
      clear HI hlk
      go_wp2_with fail
      refine (hx _ HB.out).mono ?_
      rintro e w1 ⟨rfl, hb1⟩
      have HB1 := Lib.hid (bel_trans HB.out hb1)
      clear hb1 hx
      cases hp : p o with
      | true =>
        rw [hp, if_pos rfl] at HI2
        clear hp
        go_wp2
        go_ret
        exact ⟨ret_int HI2.out, HB1.out⟩
      | false =>
        rw [hp, if_neg (by simp)] at HI2
        clear hp
        go_wp2
        refine ⟨⟨k + 1, by omega, by go_num, HI2.out, HB1.out⟩, by simp [intOf]; omega⟩
    · have he : idx p l 0 = -1 := by rw [← HI.out, idx_end (by have := HL.out.len; omega)]
      have HE := Lib.hid he
      clear he HI
      go_wp2
      go_ret
      exact ⟨ret_int HE.out.symm, HB.out⟩
theorem l_ContainsRow (F : Nat) (ca : Array Value) (HE : EntersF F) (p : Rw → Bool) (a : Option Addr) (n c : Nat) (l : List Rw) (hn : n ≤ 9223372036854775807) (w : World) (h : One rI w a n l)
    (hF : ∀ o ∈ l, ∀ w', Below w.heap.size w w' → Ret F (#[rI o] ++ ca) w' (.bool (p o))) : Ret 64 #[.slice a n c, .func (.func F) #[] ca] w (.bool (l.any p)) := by
  have HI := Lib.hid (idx_any (p := p) l 0)
  go_enter Tryz.func64, Tryz.ntmps64
  go_wp2_with fail
  refine (l_IndexRow F ca HE p a n c l hn _ h hF).mono ?_; rintro e w1 ⟨rfl, hbw1⟩; obtain ⟨hcw1, hfw1⟩ := bcell hbw1; have hzw1 := hbw1.size; (try simp [World.drew] at hzw1)
  go_wp2
  go_ret
  exact ⟨ret_bool HI.out, by repeat (first | exact Below.refl _ _ | assumption | (refine bel_trans ?_ (by assumption)) | (with_reducible apply bel_alloc) | (with_reducible apply Below.drew) | apply bel_alloc | apply Below.drew | refine bel_set ?_ (by simp; try omega) _)⟩
theorem c_isWrong (v : Vl) (w : World) : Ret 93 #[encV v] w (.bool (!vOk v)) := by
  go_enter Tryz.func93, Tryz.ntmps93
  go_wp2_with fail
  refine (c_Valid v.1 v.2.1 v.2.2 _).mono ?_; rintro e w1 ⟨rfl, hbw1⟩; obtain ⟨hcw1, hfw1⟩ := bcell hbw1; have hzw1 := hbw1.size; (try simp [World.drew] at hzw1)
  go_wp2
  go_ret
  exact ⟨rfl, by repeat (first | exact Below.refl _ _ | assumption | (refine bel_trans ?_ (by assumption)) | (with_reducible apply bel_alloc) | (with_reducible apply Below.drew) | apply bel_alloc | apply Below.drew | refine bel_set ?_ (by simp; try omega) _)⟩
theorem c_rowWrong (x : Rw) (b : Nat) (w : World) (h : Vals w x.1.1 x.1.2.1 x.2) (hn : x.1.2.1 ≤ 9223372036854775807) (hb : w.cell? ⟨b, 0, none⟩ = some (.func (.func 93) #[] #[])) :
    Ret 95 #[rI x, .pointer (some ⟨b, 0, none⟩)] w (.bool (x.2.any fun v => !vOk v)) := by
  go_enter Tryz.func95, Tryz.ntmps95
  go_wp2_with fail
  refine (l_ContainsVal 93 #[] (fun _ _ => by kernel_rfl) (fun v => !vOk v) _ _ _ x.2 hn _ h (fun v _ w' _ => c_isWrong v w')).mono ?_; rintro e w1 ⟨rfl, hbw1⟩; obtain ⟨hcw1, hfw1⟩ := bcell hbw1; have hzw1 := hbw1.size; (try simp [World.drew] at hzw1)
  go_wp2
  go_ret
  exact ⟨rfl, by repeat (first | exact Below.refl _ _ | assumption | (refine bel_trans ?_ (by assumption)) | (with_reducible apply bel_alloc) | (with_reducible apply Below.drew) | apply bel_alloc | apply Below.drew | refine bel_set ?_ (by simp; try omega) _)⟩
theorem c_notOne (x : Rw) (w : World) : Ret 97 #[rI x] w (.bool ((x.1.2.1 : Int) != 1)) := by
  go_enter Tryz.func97, Tryz.ntmps97
  go_wp2
  go_ret
  exact ⟨rfl, by repeat (first | exact Below.refl _ _ | assumption | (refine bel_trans ?_ (by assumption)) | (with_reducible apply bel_alloc) | (with_reducible apply Below.drew) | apply bel_alloc | apply Below.drew | refine bel_set ?_ (by simp; try omega) _)⟩
/-- A valid outcome. -/
def okOut (e : Int) (rows : List (List Vl)) : Bool := if e = 0 then rows.all (fun r => r.all vOk) else isErr e && rows.isEmpty
abbrev outV (a : Option Addr) (n c : Nat) (e : Int) : Value := .agg #[.slice a n c, .int .i64 e]
theorem any_wrong (l : List Rw) : l.any (fun x => x.2.any fun v => !vOk v) = !(l.map (·.2)).all (fun r => r.all vOk) := by
  rw [Bool.eq_iff_iff]
  simp
set_option maxHeartbeats 1000000 in
theorem c_isOutcome (a : Option Addr) (n c : Nat) (e : Int) (l : List Rw) (hn : n ≤ 9223372036854775807) (w : World) (h : Rows2 w a n l) : Ret 58 #[outV a n c e] w (.bool (okOut e (l.map (·.2)))) := by
  have HL := Lib.hid h
  have hlen := Lib.hid h.one.len
  clear h
  cases he : isErr e with
  | true =>
    have h0 : e ≠ 0 := by intro h; rw [h] at he; cases he
    have hR : Hid (((n : Int) == 0) = okOut e (l.map (·.2))) := by
      show _ = _
      unfold okOut
      rw [if_neg h0, he, Bool.true_and, hlen.out]
      cases l <;> simp
      omega
    have HE := Lib.hid he
    clear he
    go_enter Tryz.func58, Tryz.ntmps58
    go_wp2_with fail
    refine (c_isFailure _ _).mono ?_; rintro e w1 ⟨rfl, hbw1⟩; obtain ⟨hcw1, hfw1⟩ := bcell hbw1; have hzw1 := hbw1.size; (try simp [World.drew] at hzw1); have hk0w1 : w.heap.size < w1.heap.size := (by omega)
    rw [HE.out]
    go_wp2
    go_ret
    exact ⟨ret_bool hR.out, by repeat (first | exact Below.refl _ _ | assumption | (refine bel_trans ?_ (by assumption)) | (with_reducible apply bel_alloc) | (with_reducible apply Below.drew) | apply bel_alloc | apply Below.drew | refine bel_set ?_ (by simp; try omega) _)⟩
  | false =>
    have HE := Lib.hid he
    by_cases h0 : e = 0
    · subst h0
      have hR : Hid ((!(l.any fun x => x.2.any fun v => !vOk v)) = okOut 0 (l.map (·.2))) := by
        show _ = _
        rw [any_wrong, Bool.not_not]; rfl
      clear he
      go_enter Tryz.func58, Tryz.ntmps58
      go_wp2_with fail
      refine (c_isFailure _ _).mono ?_; rintro e w1 ⟨rfl, hbw1⟩; obtain ⟨hcw1, hfw1⟩ := bcell hbw1; have hzw1 := hbw1.size; (try simp [World.drew] at hzw1); have hk0w1 : w.heap.size < w1.heap.size := (by omega)
      rw [HE.out]
      have B1 : Below w.heap.size w w1 := by repeat (first | exact Below.refl _ _ | assumption | (refine bel_trans ?_ (by assumption)) | (with_reducible apply bel_alloc) | (with_reducible apply Below.drew) | apply bel_alloc | apply Below.drew | refine bel_set ?_ (by simp; try omega) _)
      go_wp2_with fail
      have HL2 : Hid (Rows2 (w1.alloc (.cells #[.func (.func 93) #[] #[]] 50)) a n l) := (HL.out.below B1).below (bel_alloc (Below.refl _ _) _)
      refine (l_ContainsRow 95 #[.pointer (some ⟨w1.heap.size, 0, none⟩)] (fun _ _ => by kernel_rfl) (fun x => x.2.any fun v => !vOk v) a n c l hn _ HL2.out.one (fun x hx w' hw' => c_rowWrong x w1.heap.size w' ((HL2.out.row x hx).1.below hw') (HL2.out.row x hx).2 ((hw'.cell (p := ⟨w1.heap.size, 0, none⟩) (by simp)).trans (by simp [go_sem])))).mono ?_
      rintro e w2 ⟨rfl, hb2⟩
      have B2 : Hid (Below w.heap.size w w2) := bel_trans (bel_alloc B1 _) hb2
      clear hb2
      go_wp2
      go_ret
      exact ⟨ret_bool hR.out, B2.out⟩
    · have hR : Hid (okOut e (l.map (·.2)) = false) := by
        show _ = _
        unfold okOut
        rw [if_neg h0, he]; rfl
      have h1 : (e == 0) = false := by simpa using h0
      clear he
      go_enter Tryz.func58, Tryz.ntmps58
      go_wp2_with fail
      refine (c_isFailure _ _).mono ?_; rintro e w1 ⟨rfl, hbw1⟩; obtain ⟨hcw1, hfw1⟩ := bcell hbw1; have hzw1 := hbw1.size; (try simp [World.drew] at hzw1); have hk0w1 : w.heap.size < w1.heap.size := (by omega)
      rw [HE.out]
      go_wp2
      go_ret
      exact ⟨ret_bool (by rw [hR.out]), by repeat (first | exact Below.refl _ _ | assumption | (refine bel_trans ?_ (by assumption)) | (with_reducible apply bel_alloc) | (with_reducible apply Below.drew) | apply bel_alloc | apply Below.drew | refine bel_set ?_ (by simp; try omega) _)⟩
/-- A valid outcome, each of whose rows has one value. -/
def okCol (e : Int) (rows : List (List Vl)) : Bool := okOut e rows && rows.all (fun r => r.length == 1)
theorem any_one : ∀ (l : List Rw), (∀ x ∈ l, x.1.2.1 = x.2.length) → l.any (fun x => ((x.1.2.1 : Int) != 1)) = !(l.map (·.2)).all (fun r => r.length == 1)
  | [], _ => rfl
  | x :: t, h => by
    have hx := h x List.mem_cons_self
    have e : ((x.1.2.1 : Int) != 1) = !(x.2.length == 1) := by
      rw [hx]
      by_cases h1 : x.2.length = 1
      · rw [h1]; rfl
      · have h2 : ¬ (x.2.length : Int) = 1 := by omega
        rw [bne_iff_ne.2 h2, beq_eq_false_iff_ne.2 h1]; rfl
    rw [List.any_cons, List.map_cons, List.all_cons, any_one t (fun y hy => h y (List.mem_cons_of_mem _ hy)), e, Bool.not_and]
set_option maxHeartbeats 1000000 in
theorem c_isColumn (a : Option Addr) (n c : Nat) (e : Int) (l : List Rw) (hn : n ≤ 9223372036854775807) (w : World) (h : Rows2 w a n l) : Ret 61 #[outV a n c e] w (.bool (okCol e (l.map (·.2)))) := by
  have HL := Lib.hid h
  clear h
  have h1 := Lib.hid (any_one l fun x hx => (HL.out.row x hx).1.len)
  go_enter Tryz.func61, Tryz.ntmps61
  go_wp2_with fail
  refine (c_isOutcome a n c e l hn _ (HL.out.below (bel_alloc (Below.refl _ _) _))).mono ?_; rintro e w1 ⟨rfl, hbw1⟩; obtain ⟨hcw1, hfw1⟩ := bcell hbw1; have hzw1 := hbw1.size; (try simp [World.drew] at hzw1); have hk0w1 : w.heap.size < w1.heap.size := (by omega)
  have B1 : Below w.heap.size w w1 := by repeat (first | exact Below.refl _ _ | assumption | (refine bel_trans ?_ (by assumption)) | (with_reducible apply bel_alloc) | (with_reducible apply Below.drew) | apply bel_alloc | apply Below.drew | refine bel_set ?_ (by simp; try omega) _)
  have HL2 := Lib.hid (HL.out.below B1)
  cases ho : okOut e (l.map (·.2)) with
  | false =>
    go_wp2
    go_ret
    exact ⟨ret_bool (by unfold okCol; rw [ho]; rfl), B1⟩
  | true =>
    go_wp2_with fail
    refine (l_ContainsRow 97 #[] (fun _ _ => by kernel_rfl) (fun x => ((x.1.2.1 : Int) != 1)) a n c l hn _ HL2.out.one (fun x _ w' _ => c_notOne x w')).mono ?_
    rintro e w2 ⟨rfl, hb2⟩
    have B2 : Hid (Below w.heap.size w w2) := bel_trans B1 hb2
    clear hb2
    go_wp2
    go_ret
    exact ⟨ret_bool (by unfold okCol; rw [ho, h1.out]; simp), B2.out⟩
end Go.Proofs.YtefelelhgepkeaaGreatDoor.K
