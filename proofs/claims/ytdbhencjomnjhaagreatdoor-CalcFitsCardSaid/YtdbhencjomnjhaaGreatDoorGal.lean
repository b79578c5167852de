/- Outcomes in memory, and the program's functions about subqueries. -/
import Derived.Test.YtdbhencjomnjhaaGreatDoorGac
import Derived.Test.YtdbhencjomnjhaaGreatDoorGab
import Derived.Laws.EntriesVeiled
import Derived.Test.YtdbhencjomnjhaaGreatDoorGae
namespace Go.Proofs.YtdbhencjomnjhaaGreatDoor.K
open Go.ChangeShapes Go.WideShapes Go.ChangeAt Go.RowKit Go.Proofs.YtdbhencjomnjhaaGreatDoor.V
abbrev encV (v : Vl) : Value := val v.1 v.2.1 v.2.2
/-- A slice reads as these values. -/
structure Vals (W : World) (a : Option Addr) (n : Nat) (l : List Vl) : Prop where
  len : n = l.length
  at_ : ∀ k, k < n → ∃ g p o, a = some ⟨g, p, none⟩ ∧ l[k]? = some o ∧ g < W.heap.size ∧ W.cell? ⟨g, p + k * 3, none⟩ = some (.int .u8 o.1) ∧ W.cell? ⟨g, p + k * 3 + 1, none⟩ = some (.int .i64 o.2.1) ∧ W.cell? ⟨g, p + k * 3 + 2, none⟩ = some (.string o.2.2)
theorem Vals.below {w w' : World} {a : Option Addr} {n : Nat} {l : List Vl} (h : Vals w a n l) (hb : Below w.heap.size w w') : Vals w' a n l :=
  ⟨h.len, fun k hk => by
    obtain ⟨g, p, o, h1, h2, h3, h4, h5, h6⟩ := h.at_ k hk
    exact ⟨g, p, o, h1, h2, Nat.lt_of_lt_of_le h3 hb.size, (hb.cell (p := ⟨g, _, none⟩) h3).trans h4, (hb.cell (p := ⟨g, _, none⟩) h3).trans h5, (hb.cell (p := ⟨g, _, none⟩) h3).trans h6⟩⟩
/-- A row: where it lies, and what it holds. -/
abbrev Rw := (Option Addr × Nat × Nat) × List Vl
abbrev rI (x : Rw) : Value := .slice x.1.1 x.1.2.1 x.1.2.2
structure Rows2 (W : World) (a : Option Addr) (n : Nat) (l : List Rw) : Prop where
  one : One rI W a n l
  row : ∀ x ∈ l, Vals W x.1.1 x.1.2.1 x.2 ∧ x.1.2.1 ≤ 9223372036854775807
theorem Rows2.below {w w' : World} {a : Option Addr} {n : Nat} {l : List Rw} (h : Rows2 w a n l) (hb : Below w.heap.size w w') : Rows2 w' a n l := ⟨h.one.below hb, fun x hx => ⟨(h.row x hx).1.below hb, (h.row x hx).2⟩⟩
set_option maxHeartbeats 1000000 in
theorem l_IndexVal (F : Nat) (ca : Array Value) (HE : EntersF F) (p : Vl → Bool) (a : Option Addr) (n c : Nat) (l : List Vl) (hn : n ≤ 9223372036854775807) (w : World) (h : Vals w a n l)
    (hF : ∀ o ∈ l, ∀ w', Below w.heap.size w w' → Ret F (#[encV o] ++ ca) w' (.bool (p o))) : Ret 91 #[.slice a n c, .func (.func F) #[] ca] w (.int .i64 (idx p l 0)) := by
  have HL := Lib.hid h
  have HP := Lib.hid hF
  clear h hF
  go_enter Tryz.func91, Tryz.ntmps91
  go_wp2
  go_loopw [8] (fun s8 wr => ∃ (k : Nat), k ≤ n ∧ s8 = .int .i64 k ∧ Hid (idx p (l.drop k) k = idx p l 0) ∧ Hid (Below w.heap.size w wr)) (fun s8 _ => n - (intOf s8).toNat)
  case atStart => exact ⟨0, by omega, rfl, rfl, Below.refl _ _⟩
  case round =>
    obtain ⟨k, hk, rfl, HI, HB⟩ := hrel
    by_cases hlt : k < n
    · obtain ⟨g, q, o, rfl, hlk, hg, c0, c1, c2⟩ := (HL.out.below HB.out).at_ k hlt
      have HI2 := Lib.hid ((idx_drop hlk k).symm.trans HI.out)
      have hx := HP.out o (List.mem_of_getElem? hlk)
      clear HI hlk
      go_wp2_with fail
      refine (hx _ HB.out).mono ?_
      rintro e w1 ⟨rfl, hb1⟩
      have HB1 := Lib.hid (bel_trans HB.out hb1)
      clear hb1 hx
      cases hp : p o with
      | true =>
        rw [hp, if_pos rfl] at HI2
        clear hp
        go_wp2
        go_ret
        exact ⟨ret_int HI2.out, HB1.out⟩
      | false =>
        rw [hp, if_neg (by simp)] at HI2
        clear hp
        go_wp2
        refine ⟨⟨k + 1, by omega, by go_num, HI2.out, HB1.out⟩, by simp [intOf]; omega⟩
    · have he : idx p l 0 = -1 := by rw [← HI.out, idx_end (by have := HL.out.len; omega)]
      have HE := Lib.hid he
      clear he HI
      go_wp2
      go_ret
      exact ⟨ret_int HE.out.symm, HB.out⟩
theorem l_ContainsVal (F : Nat) (ca : Array Value) (HE : EntersF F) (p : Vl → Bool) (a : Option Addr) (n c : Nat) (l : List Vl) (hn : n ≤ 9223372036854775807) (w : World) (h : Vals w a n l)
    (hF : ∀ o ∈ l, ∀ w', Below w.heap.size w w' → Ret F (#[encV o] ++ ca) w' (.bool (p o))) : Ret 80 #[.slice a n c, .func (.func F) #[] ca] w (.bool (l.any p)) := by
  have HI := Lib.hid (idx_any (p := p) l 0)
  go_enter Tryz.func80, Tryz.ntmps80
  go_wp2_with fail
  refine (l_IndexVal F ca HE p a n c l hn _ h hF).mono ?_; rintro e w1 ⟨rfl, hbw1⟩; obtain ⟨hcw1, hfw1⟩ := bcell hbw1; have hzw1 := hbw1.size; (try simp [World.drew] at hzw1)
  go_wp2
  go_ret
  exact ⟨ret_bool HI.out, by repeat (first | exact Below.refl _ _ | assumption | (refine bel_trans ?_ (by assumption)) | (with_reducible apply bel_alloc) | (with_reducible apply Below.drew) | apply bel_alloc | apply Below.drew | refine bel_set ?_ (by simp; try omega) _)⟩
set_option maxHeartbeats 1000000 in
theorem l_IndexRow (F : Nat) (ca : Array Value) (HE : EntersF F) (p : Rw → Bool) (a : Option Addr) (n c : Nat) (l : List Rw) (hn : n ≤ 9223372036854775807) (w : World) (h : One rI w a n l)
    (hF : ∀ o ∈ l, ∀ w', Below w.heap.size w w' → Ret F (#[rI o] ++ ca) w' (.bool (p o))) : Ret 64 #[.slice a n c, .func (.func F) #[] ca] w (.int .i64 (idx p l 0)) := by
  have HL := Lib.hid h
  have HP := Lib.hid hF
  clear h hF
  go_enter Tryz.func64, Tryz.ntmps64
  go_wp2
  go_loopw [8] (fun s8 wr => ∃ (k : Nat), k ≤ n ∧ s8 = .int .i64 k ∧ Hid (idx p (l.drop k) k = idx p l 0) ∧ Hid (Below w.heap.size w wr)) (fun s8 _ => n - (intOf s8).toNat)
  case atStart => exact ⟨0, by omega, rfl, rfl, Below.refl _ _⟩
  case round =>
    obtain ⟨k, hk, rfl, HI, HB⟩ := hrel
    by_cases hlt : k < n
    · obtain ⟨g, q, o, rfl, hlk, hg, c0⟩ := (HL.out.below HB.out).at_ k hlt
      have HI2 := Lib.hid ((idx_drop hlk k).symm.trans HI.out)
      have hx := HP.out o (List.mem_of_getElem? hlk)
      clear HI hlk
      go_wp2_with fail
      refine (hx _ HB.out).mono ?_
      rintro e w1 ⟨rfl, hb1⟩
      have HB1 := Lib.hid (bel_trans HB.out hb1)
      clear hb1 hx
      cases hp : p o with
      | true =>
        rw [hp, if_pos rfl] at HI2
        clear hp
        go_wp2
        go_ret
        exact ⟨ret_int HI2.out, HB1.out⟩
      | false =>
        rw [hp, if_neg (by simp)] at HI2
        clear hp
        go_wp2
        refine ⟨⟨k + 1, by omega, by go_num, HI2.out, HB1.out⟩, by simp [intOf]; omega⟩
    · have he : idx p l 0 = -1 := by rw [← HI.out, idx_end (by have := HL.out.len; omega)]
      have HE := Lib.hid he
      clear he HI
      go_wp2
      go_ret
      exact ⟨ret_int HE.out.symm, HB.out⟩
theorem l_ContainsRow (F : Nat) (ca : Array Value) (HE : EntersF F) (p : Rw → Bool) (a : Option Addr) (n c : Nat) (l : List Rw) (hn : n ≤ 9223372036854775807) (w : World) (h : One rI w a n l)
    (hF : ∀ o ∈ l, ∀ w', Below w.heap.size w w' → Ret F (#[rI o] ++ ca) w' (.bool (p o))) : Ret 47 #[.slice a n c, .func (.func F) #[] ca] w (.bool (l.any p)) := by
  have HI := Lib.hid (idx_any (p := p) l 0)
  go_enter Tryz.func47, Tryz.ntmps47
  go_wp2_with fail
  refine (l_IndexRow F ca HE p a n c l hn _ h hF).mono ?_; rintro e w1 ⟨rfl, hbw1⟩; obtain ⟨hcw1, hfw1⟩ := bcell hbw1; have hzw1 := hbw1.size; (try simp [World.drew] at hzw1)
  go_wp2
  go_ret
  exact ⟨ret_bool HI.out, by repeat (first | exact Below.refl _ _ | assumption | (refine bel_trans ?_ (by assumption)) | (with_reducible apply bel_alloc) | (with_reducible apply Below.drew) | apply bel_alloc | apply Below.drew | refine bel_set ?_ (by simp; try omega) _)⟩
theorem c_isWrong (v : Vl) (w : World) : Ret 78 #[encV v] w (.bool (!vOk v)) := by
  go_enter Tryz.func78, Tryz.ntmps78
  go_wp2_with fail
  refine (c_Valid v.1 v.2.1 v.2.2 _).mono ?_; rintro e w1 ⟨rfl, hbw1⟩; obtain ⟨hcw1, hfw1⟩ := bcell hbw1; have hzw1 := hbw1.size; (try simp [World.drew] at hzw1)
  go_wp2
  go_ret
  exact ⟨rfl, by repeat (first | exact Below.refl _ _ | assumption | (refine bel_trans ?_ (by assumption)) | (with_reducible apply bel_alloc) | (with_reducible apply Below.drew) | apply bel_alloc | apply Below.drew | refine bel_set ?_ (by simp; try omega) _)⟩
theorem c_rowWrong (x : Rw) (b : Nat) (w : World) (h : Vals w x.1.1 x.1.2.1 x.2) (hn : x.1.2.1 ≤ 9223372036854775807) (hb : w.cell? ⟨b, 0, none⟩ = some (.func (.func 78) #[] #[])) :
    Ret 79 #[rI x, .pointer (some ⟨b, 0, none⟩)] w (.bool (x.2.any fun v => !vOk v)) := by
  go_enter Tryz.func79, Tryz.ntmps79
  go_wp2_with fail
  refine (l_ContainsVal 78 #[] (fun _ _ => by kernel_rfl) (fun v => !vOk v) _ _ _ x.2 hn _ h (fun v _ w' _ => c_isWrong v w')).mono ?_; rintro e w1 ⟨rfl, hbw1⟩; obtain ⟨hcw1, hfw1⟩ := bcell hbw1; have hzw1 := hbw1.size; (try simp [World.drew] at hzw1)
  go_wp2
  go_ret
  exact ⟨rfl, by repeat (first | exact Below.refl _ _ | assumption | (refine bel_trans ?_ (by assumption)) | (with_reducible apply bel_alloc) | (with_reducible apply Below.drew) | apply bel_alloc | apply Below.drew | refine bel_set ?_ (by simp; try omega) _)⟩
theorem c_notOne (x : Rw) (w : World) : Ret 63 #[rI x] w (.bool ((x.1.2.1 : Int) != 1)) := by
  go_enter Tryz.func63, Tryz.ntmps63
  go_wp2
  go_ret
  exact ⟨rfl, by repeat (first | exact Below.refl _ _ | assumption | (refine bel_trans ?_ (by assumption)) | (with_reducible apply bel_alloc) | (with_reducible apply Below.drew) | apply bel_alloc | apply Below.drew | refine bel_set ?_ (by simp; try omega) _)⟩
/-- A valid outcome. -/
def okOut (e : Int) (rows : List (List Vl)) : Bool := if e = 0 then rows.all (fun r => r.all vOk) else isErr e && rows.isEmpty
abbrev outV (a : Option Addr) (n c : Nat) (e : Int) : Value := .agg #[.slice a n c, .int .i64 e]
theorem any_wrong (l : List Rw) : l.any (fun x => x.2.any fun v => !vOk v) = !(l.map (·.2)).all (fun r => r.all vOk) := by
  rw [Bool.eq_iff_iff]
  simp
set_option maxHeartbeats 1000000 in
theorem c_isOutcome (a : Option Addr) (n c : Nat) (e : Int) (l : List Rw) (hn : n ≤ 9223372036854775807) (w : World) (h : Rows2 w a n l) : Ret 62 #[outV a n c e] w (.bool (okOut e (l.map (·.2)))) := by
  have HL := Lib.hid h
  have hlen := Lib.hid h.one.len
  clear h
  cases he : isErr e with
  | true =>
    have h0 : e ≠ 0 := by intro h; rw [h] at he; cases he
    have hR : Hid (((n : Int) == 0) = okOut e (l.map (·.2))) := by
      show _ = _
      unfold okOut
      rw [if_neg h0, he, Bool.true_and, hlen.out]
      cases l <;> simp
      omega
    have HE := Lib.hid he
    clear he
    go_enter Tryz.func62, Tryz.ntmps62
    go_wp2_with fail
    refine (c_isFailure _ _).mono ?_; rintro e w1 ⟨rfl, hbw1⟩; obtain ⟨hcw1, hfw1⟩ := bcell hbw1; have hzw1 := hbw1.size; (try simp [World.drew] at hzw1); have hk0w1 : w.heap.size < w1.heap.size := (by omega)
    rw [HE.out]
    go_wp2
    go_ret
    exact ⟨ret_bool hR.out, by repeat (first | exact Below.refl _ _ | assumption | (refine bel_trans ?_ (by assumption)) | (with_reducible apply bel_alloc) | (with_reducible apply Below.drew) | apply bel_alloc | apply Below.drew | refine bel_set ?_ (by simp; try omega) _)⟩
  | false =>
    have HE := Lib.hid he
    by_cases h0 : e = 0
    · subst h0
      have hR : Hid ((!(l.any fun x => x.2.any fun v => !vOk v)) = okOut 0 (l.map (·.2))) := by
        show _ = _
        rw [any_wrong, Bool.not_not]; rfl
      clear he
      go_enter Tryz.func62, Tryz.ntmps62
      go_wp2_with fail
      refine (c_isFailure _ _).mono ?_; rintro e w1 ⟨rfl, hbw1⟩; obtain ⟨hcw1, hfw1⟩ := bcell hbw1; have hzw1 := hbw1.size; (try simp [World.drew] at hzw1); have hk0w1 : w.heap.size < w1.heap.size := (by omega)
      rw [HE.out]
      have B1 : Below w.heap.size w w1 := by repeat (first | exact Below.refl _ _ | assumption | (refine bel_trans ?_ (by assumption)) | (with_reducible apply bel_alloc) | (with_reducible apply Below.drew) | apply bel_alloc | apply Below.drew | refine bel_set ?_ (by simp; try omega) _)
      go_wp2_with fail
      have HL2 : Hid (Rows2 (w1.alloc (.cells #[.func (.func 78) #[] #[]] 37)) a n l) := (HL.out.below B1).below (bel_alloc (Below.refl _ _) _)
      refine (l_ContainsRow 79 #[.pointer (some ⟨w1.heap.size, 0, none⟩)] (fun _ _ => by kernel_rfl) (fun x => x.2.any fun v => !vOk v) a n c l hn _ HL2.out.one (fun x hx w' hw' => c_rowWrong x w1.heap.size w' ((HL2.out.row x hx).1.below hw') (HL2.out.row x hx).2 ((hw'.cell (p := ⟨w1.heap.size, 0, none⟩) (by simp)).trans (by simp [go_sem])))).mono ?_
      rintro e w2 ⟨rfl, hb2⟩
      have B2 : Hid (Below w.heap.size w w2) := bel_trans (bel_alloc B1 _) hb2
      clear hb2
      go_wp2
      go_ret
      exact ⟨ret_bool hR.out, B2.out⟩
    · have hR : Hid (okOut e (l.map (·.2)) = false) := by
        show _ = _
        unfold okOut
        rw [if_neg h0, he]; rfl
      have h1 : (e == 0) = false := by simpa using h0
      clear he
      go_enter Tryz.func62, Tryz.ntmps62
      go_wp2_with fail
      refine (c_isFailure _ _).mono ?_; rintro e w1 ⟨rfl, hbw1⟩; obtain ⟨hcw1, hfw1⟩ := bcell hbw1; have hzw1 := hbw1.size; (try simp [World.drew] at hzw1); have hk0w1 : w.heap.size < w1.heap.size := (by omega)
      rw [HE.out]
      go_wp2
      go_ret
      exact ⟨ret_bool (by rw [hR.out]), by repeat (first | exact Below.refl _ _ | assumption | (refine bel_trans ?_ (by assumption)) | (with_reducible apply bel_alloc) | (with_reducible apply Below.drew) | apply bel_alloc | apply Below.drew | refine bel_set ?_ (by simp; try omega) _)⟩
/-- A valid outcome, each of whose rows has one value. -/
def okCol (e : Int) (rows : List (List Vl)) : Bool := okOut e rows && rows.all (fun r => r.length == 1)
theorem any_one : ∀ (l : List Rw), (∀ x ∈ l, x.1.2.1 = x.2.length) → l.any (fun x => ((x.1.2.1 : Int) != 1)) = !(l.map (·.2)).all (fun r => r.length == 1)
  | [], _ => rfl
  | x :: t, h => by
    have hx := h x List.mem_cons_self
    have e : ((x.1.2.1 : Int) != 1) = !(x.2.length == 1) := by
      rw [hx]
      by_cases h1 : x.2.length = 1
      · rw [h1]; rfl
      · have h2 : ¬ (x.2.length : Int) = 1 := by omega
        rw [bne_iff_ne.2 h2, beq_eq_false_iff_ne.2 h1]; rfl
    rw [List.any_cons, List.map_cons, List.all_cons, any_one t (fun y hy => h y (List.mem_cons_of_mem _ hy)), e, Bool.not_and]
set_option maxHeartbeats 1000000 in
theorem c_isColumn (a : Option Addr) (n c : Nat) (e : Int) (l : List Rw) (hn : n ≤ 9223372036854775807) (w : World) (h : Rows2 w a n l) : Ret 45 #[outV a n c e] w (.bool (okCol e (l.map (·.2)))) := by
  have HL := Lib.hid h
  clear h
  have h1 := Lib.hid (any_one l fun x hx => (HL.out.row x hx).1.len)
  go_enter Tryz.func45, Tryz.ntmps45
  go_wp2_with fail
  refine (c_isOutcome a n c e l hn _ (HL.out.below (bel_alloc (Below.refl _ _) _))).mono ?_; rintro e w1 ⟨rfl, hbw1⟩; obtain ⟨hcw1, hfw1⟩ := bcell hbw1; have hzw1 := hbw1.size; (try simp [World.drew] at hzw1); have hk0w1 : w.heap.size < w1.heap.size := (by omega)
  have B1 : Below w.heap.size w w1 := by repeat (first | exact Below.refl _ _ | assumption | (refine bel_trans ?_ (by assumption)) | (with_reducible apply bel_alloc) | (with_reducible apply Below.drew) | apply bel_alloc | apply Below.drew | refine bel_set ?_ (by simp; try omega) _)
  have HL2 := Lib.hid (HL.out.below B1)
  cases ho : okOut e (l.map (·.2)) with
  | false =>
    go_wp2
    go_ret
    exact ⟨ret_bool (by unfold okCol; rw [ho]; rfl), B1⟩
  | true =>
    go_wp2_with fail
    refine (l_ContainsRow 63 #[] (fun _ _ => by kernel_rfl) (fun x => ((x.1.2.1 : Int) != 1)) a n c l hn _ HL2.out.one (fun x _ w' _ => c_notOne x w')).mono ?_
    rintro e w2 ⟨rfl, hb2⟩
    have B2 : Hid (Below w.heap.size w w2) := bel_trans B1 hb2
    clear hb2
    go_wp2
    go_ret
    exact ⟨ret_bool (by unfold okCol; rw [ho, h1.out]; simp), B2.out⟩
end Go.Proofs.YtdbhencjomnjhaaGreatDoor.K
namespace Go.Proofs.YtdbhencjomnjhaaGreatDoor.K
open Go.ChangeShapes Go.WideShapes Go.ChangeAt Go.RowKit Go.Proofs.YtdbhencjomnjhaaGreatDoor.V
def existsO (e : Int) (rows : List (List Vl)) : Ot := if okOut e rows then (if e ≠ 0 then fl e else bo (decide (0 < rows.length))) else fl 1
def hd (l : List Vl) : Vl := l.headD (0, 0, ⟨#[]⟩)
def scalarO (e : Int) (rows : List (List Vl)) : Ot := if okCol e rows then (if e ≠ 0 then fl e else if 1 < rows.length then fl 6 else if rows.length = 0 then nul else ofV (hd (rows.headD []))) else fl 1
def inO (x : Ot) (e : Int) (rows : List (List Vl)) : Ot := if x.ok && okCol e rows then (if lst x.e e ≠ 0 then fl (lst x.e e) else inL x false (rows.map hd)) else fl 1
end Go.Proofs.YtdbhencjomnjhaaGreatDoor.K
namespace Go.Proofs.YtdbhencjomnjhaaGreatDoor.K
open Go.ChangeShapes Go.WideShapes Go.ChangeAt Go.RowKit Go.Proofs.YtdbhencjomnjhaaGreatDoor.V
def sameV (u v : Vl) : Bool := same u.1 u.2.1 u.2.2 v.1 v.2.1 v.2.2
theorem lt_of_cell {W : World} {b o : Nat} {v : Value} (h : W.cell? ⟨b, o, none⟩ = some v) : b < W.heap.size := by
  rcases Nat.lt_or_ge b W.heap.size with h' | h'
  · exact h'
  · unfold World.cell? at h; simp [Array.getElem?_eq_none h'] at h
theorem c_rowHas (x : Rw) (v : Vl) (b : Nat) (w : World) (h : Vals w x.1.1 x.1.2.1 x.2) (h1 : x.2.length = 1) (b0 : w.cell? ⟨b, 0, none⟩ = some (.int .u8 v.1)) (b1 : w.cell? ⟨b, 1, none⟩ = some (.int .i64 v.2.1)) (b2 : w.cell? ⟨b, 2, none⟩ = some (.string v.2.2)) :
    Ret 48 #[rI x, .pointer (some ⟨b, 0, none⟩)] w (.bool (sameV (hd x.2) v)) := by
  obtain ⟨⟨a, n, c⟩, vs⟩ := x
  have hn : n = 1 := h.len.trans h1
  subst hn
  obtain ⟨g2, p2, u, e2, hv0, hg2, d0, d1, d2⟩ := h.at_ 0 (show 0 < 1 by omega)
  simp only at e2 hv0
  subst e2
  have hhd : hd vs = u := by
    match vs, hv0 with
    | u :: t, hv0 => exact Option.some.inj hv0
  have HR : Hid (sameV (hd vs) v = same u.1 u.2.1 u.2.2 v.1 v.2.1 v.2.2) := by show _ = _; rw [hhd]; rfl
  have d0 : w.cell? ⟨g2, p2, none⟩ = some (.int .u8 u.1) := by simpa using d0
  have d1 : w.cell? ⟨g2, p2 + 1, none⟩ = some (.int .i64 u.2.1) := by simpa using d1
  have d2 : w.cell? ⟨g2, p2 + 2, none⟩ = some (.string u.2.2) := by simpa using d2
  clear h h1 hv0 hhd
  show Ret 48 #[.slice (some ⟨g2, p2, none⟩) 1 c, .pointer (some ⟨b, 0, none⟩)] w _
  obtain ⟨uk, un, us⟩ := u
  obtain ⟨vk, vn, vs2⟩ := v
  simp only at d0 d1 d2 b0 b1 b2 HR
  by_cases h1 : uk = vk
  · by_cases h2 : un = vn
    · by_cases h3 : us.toList = vs2.toList
      · go_enter Tryz.func48, Tryz.ntmps48
        go_wp2
        go_quiet (fail)
        go_wp2
        go_ret
        exact ⟨ret_bool (by rw [HR.out]; simp [same, h1, h2, h3]), by repeat (first | exact Below.refl _ _ | assumption | exact Go.Proofs.YtdbhencjomnjhaaGreatDoor.V.below_drewN _ _ | (refine bel_trans ?_ (Go.Proofs.YtdbhencjomnjhaaGreatDoor.V.below_drewN _ _)) | (refine bel_trans ?_ (by assumption)) | (with_reducible apply bel_alloc) | (with_reducible apply Below.drew) | apply bel_alloc | apply Below.drew | refine bel_set ?_ (by simp; try omega) _)⟩
      · go_enter Tryz.func48, Tryz.ntmps48
        go_wp2
        go_quiet (fail)
        go_wp2
        go_ret
        exact ⟨ret_bool (by rw [HR.out]; simp [same, h1, h2, h3]), by repeat (first | exact Below.refl _ _ | assumption | exact Go.Proofs.YtdbhencjomnjhaaGreatDoor.V.below_drewN _ _ | (refine bel_trans ?_ (Go.Proofs.YtdbhencjomnjhaaGreatDoor.V.below_drewN _ _)) | (refine bel_trans ?_ (by assumption)) | (with_reducible apply bel_alloc) | (with_reducible apply Below.drew) | apply bel_alloc | apply Below.drew | refine bel_set ?_ (by simp; try omega) _)⟩
    · go_enter Tryz.func48, Tryz.ntmps48
      go_wp2
      go_quiet (fail)
      go_wp2
      go_ret
      exact ⟨ret_bool (by rw [HR.out]; simp [same, h1, h2]), by repeat (first | exact Below.refl _ _ | assumption | exact Go.Proofs.YtdbhencjomnjhaaGreatDoor.V.below_drewN _ _ | (refine bel_trans ?_ (Go.Proofs.YtdbhencjomnjhaaGreatDoor.V.below_drewN _ _)) | (refine bel_trans ?_ (by assumption)) | (with_reducible apply bel_alloc) | (with_reducible apply Below.drew) | apply bel_alloc | apply Below.drew | refine bel_set ?_ (by simp; try omega) _)⟩
  · go_enter Tryz.func48, Tryz.ntmps48
    go_wp2
    go_quiet (fail)
    go_wp2
    go_ret
    exact ⟨ret_bool (by rw [HR.out]; simp [same, h1]), by repeat (first | exact Below.refl _ _ | assumption | exact Go.Proofs.YtdbhencjomnjhaaGreatDoor.V.below_drewN _ _ | (refine bel_trans ?_ (Go.Proofs.YtdbhencjomnjhaaGreatDoor.V.below_drewN _ _)) | (refine bel_trans ?_ (by assumption)) | (with_reducible apply bel_alloc) | (with_reducible apply Below.drew) | apply bel_alloc | apply Below.drew | refine bel_set ?_ (by simp; try omega) _)⟩
theorem c_has (v : Vl) (a : Option Addr) (n c : Nat) (e : Int) (l : List Rw) (hn : n ≤ 9223372036854775807) (b : Nat) (w : World) (h : Rows2 w a n l) (h1 : ∀ x ∈ l, x.2.length = 1) (b0 : w.cell? ⟨b, 0, none⟩ = some (.slice a n c)) :
    Ret 46 #[encV v, .pointer (some ⟨b, 0, none⟩)] w (.bool ((l.map fun x => hd x.2).any fun u => sameV u v)) := by
  have HL := Lib.hid h
  have H1 := Lib.hid h1
  clear h h1
  have hb := lt_of_cell b0
  have b01 := ((bel_alloc (Below.refl w.heap.size w) (.cells #[.int .u8 v.1, .int .i64 v.2.1, .string v.2.2] 28)).cell (p := ⟨b, 0, none⟩) hb).trans b0
  go_enter Tryz.func46, Tryz.ntmps46
  go_wp2_with fail
  have HL2 := Lib.hid (HL.out.below (bel_alloc (Below.refl _ w) (.cells #[.int .u8 v.1, .int .i64 v.2.1, .string v.2.2] 28)))
  refine (l_ContainsRow 48 #[.pointer (some ⟨w.heap.size, 0, none⟩)] (fun _ _ => by kernel_rfl) (fun x => sameV (hd x.2) v) a n c l hn _ HL2.out.one (fun x hx w' hw' => c_rowHas x v w.heap.size w' ((HL2.out.row x hx).1.below hw') (H1.out x hx)
    ((hw'.cell (p := ⟨w.heap.size, 0, none⟩) (by simp)).trans (by simp [go_sem])) ((hw'.cell (p := ⟨w.heap.size, 1, none⟩) (by simp)).trans (by simp [go_sem])) ((hw'.cell (p := ⟨w.heap.size, 2, none⟩) (by simp)).trans (by simp [go_sem])))).mono ?_
  rintro e w2 ⟨rfl, hb2⟩
  have B2 : Hid (Below w.heap.size w w2) := bel_trans (bel_alloc (Below.refl _ _) _) hb2
  clear hb2
  go_wp2
  go_ret
  refine ⟨ret_bool ?_, B2.out⟩
  rw [List.any_map]
  simp [Function.comp_def]
/-! ### What it comes to -/
theorem inL_null (x : Ot) (hx : isN x = true) : ∀ (l : List Vl) (nl : Bool), inL x nl l = if l = [] then (if nl then nul else bo false) else nul
  | [], nl => by simp [inL]
  | v :: t, nl => by
    rw [inL, hx, Bool.true_or, if_pos rfl, inL_null x hx t true]
    cases t <;> simp
theorem inL_some (x : Ot) (hx : isN x = false) (h0 : x.k ≠ 0) : ∀ (l : List Vl) (nl : Bool), inL x nl l = if l.any (fun v => same x.k x.n x.s v.1 v.2.1 v.2.2) then bo true else if nl || l.any (fun v => v.1 == 0) then nul else bo false
  | [], nl => by simp [inL]
  | v :: t, nl => by
    rw [inL, hx, Bool.false_or]
    by_cases hv : v.1 = 0
    · have e : (v.1 == 0) = true := by simpa using hv
      have e2 : same x.k x.n x.s v.1 v.2.1 v.2.2 = false := by
        cases h : same x.k x.n x.s v.1 v.2.1 v.2.2 with
        | false => rfl
        | true => exact absurd ((same_iff.1 h).1.trans hv) h0
      rw [e, if_pos rfl, inL_some x hx h0 t true, List.any_cons, List.any_cons, e, e2]
      simp only [Bool.true_or, Bool.or_true, Bool.false_or, if_true]
    · have e : (v.1 == 0) = false := by simpa using hv
      rw [e, if_neg (by simp), List.any_cons, List.any_cons, e]
      cases same x.k x.n x.s v.1 v.2.1 v.2.2 with
      | true => simp
      | false => rw [if_neg (by simp), inL_some x hx h0 t nl]; simp only [Bool.false_or]
theorem null_is {v : Vl} (h : vOk v = true) : sameV v (0, 0, ⟨#[]⟩) = (v.1 == 0) := by
  rw [Bool.eq_iff_iff]
  unfold sameV
  rw [same_iff]
  constructor
  · rintro ⟨h1, -⟩; simpa using h1
  · intro h1
    have h1 : v.1 = 0 := by simpa using h1
    unfold vOk vd at h
    rw [if_pos h1] at h
    simp at h
    exact ⟨h1, h.1, ba_nil h.2⟩
theorem same_comm (a b : Vl) : sameV a b = sameV b a := by
  rw [Bool.eq_iff_iff]; unfold sameV; rw [same_iff, same_iff]
  constructor <;> (rintro ⟨h1, h2, h3⟩; exact ⟨h1.symm, h2.symm, h3.symm⟩)
/-- The program's two questions come to what the document says. -/
theorem in_is {x : Ot} (he : x.e = 0) (hx : x.ok = true) {l : List Vl} (hl : ∀ v ∈ l, vOk v = true) :
    inL x false l = if !isN x && l.any (fun u => sameV u (x.k, x.n, x.s)) then bo true else if decide (0 < l.length) && (isN x || l.any (fun u => sameV u (0, 0, ⟨#[]⟩))) then nul else bo false := by
  have e1 : l.any (fun u => sameV u (0, 0, ⟨#[]⟩)) = l.any (fun v => v.1 == 0) := by
    rw [Bool.eq_iff_iff, List.any_eq_true, List.any_eq_true]
    constructor
    · rintro ⟨v, hv, h⟩; exact ⟨v, hv, by rw [← null_is (hl v hv)]; exact h⟩
    · rintro ⟨v, hv, h⟩; exact ⟨v, hv, by rw [null_is (hl v hv)]; exact h⟩
  have e2 : l.any (fun u => sameV u (x.k, x.n, x.s)) = l.any (fun v => same x.k x.n x.s v.1 v.2.1 v.2.2) := by
    congr 1
    funext u
    rw [same_comm]; rfl
  rw [e1, e2]
  cases hn : isN x with
  | true =>
    rw [inL_null x hn]
    cases l <;> simp
  | false =>
    have h0 : x.k ≠ 0 := by
      intro h; simp [isN, he, h] at hn
    rw [inL_some x hn h0]
    cases l with
    | nil => simp
    | cons u t => simp only [Bool.not_false, Bool.true_and, Bool.false_or, List.length_cons, Nat.zero_lt_succ, decide_true]
/-- Two outs in a new block. -/
theorem outs_two (W : World) (x y : Ot) : Outs (W.alloc (.cells #[.int .u8 x.k, .int .i64 x.n, .string x.s, .int .i64 x.e, .int .u8 y.k, .int .i64 y.n, .string y.s, .int .i64 y.e] 31)) (some ⟨W.heap.size, 0, none⟩) 2 [x, y] :=
  ⟨rfl, fun k hk => by
    have : k = 0 ∨ k = 1 := by omega
    rcases this with rfl | rfl
    · exact ⟨_, 0, x, rfl, rfl, by simp, by simp [go_sem], by simp [go_sem], by simp [go_sem], by simp [go_sem]⟩
    · exact ⟨_, 0, y, rfl, rfl, by simp, by simp [go_sem], by simp [go_sem], by simp [go_sem], by simp [go_sem]⟩⟩
theorem errs_two (x : Ot) (e : Int) : errs 0 [x, fl e] = lst x.e e := by
  simp only [errs]
  have : lst 0 x.e = x.e := by simp [lst]
  rw [this]
theorem heads (l : List Rw) : (l.map fun x => hd x.2) = (l.map (·.2)).map hd := by rw [List.map_map]; rfl
set_option maxRecDepth 100000 in
set_option maxHeartbeats 4000000 in
theorem c_In_no (x : Ot) (a : Option Addr) (n c : Nat) (e : Int) (l : List Rw) (hn : n ≤ 9223372036854775807) (hno : (x.ok && okCol e (l.map (·.2))) = false) (w : World) (h : Rows2 w a n l) : Ret 20 #[enc x, outV a n c e] w (ov 0 0 ⟨#[]⟩ 1) := by
  have HL := Lib.hid h
  clear h
  cases hx : x.ok with
  | false =>
    have HX := Lib.hid hx
    clear hx hno
    go_enter Tryz.func20, Tryz.ntmps20
    go_wp2_with fail
    refine (c_isValid x _).mono ?_; rintro e w1 ⟨rfl, hbw1⟩; obtain ⟨hcw1, hfw1⟩ := bcell hbw1; have hzw1 := hbw1.size; (try simp at hzw1); have hk0w1 : w.heap.size < w1.heap.size := (by omega); have hk1w1 : w.heap.size + 1 < w1.heap.size := (by omega); have hk2w1 : w.heap.size + 1 + 1 < w1.heap.size := (by omega)
    rw [HX.out]
    go_wp2_with fail
    refine (c_failing 1 _).mono ?_; rintro e w2 ⟨rfl, hbw2⟩; obtain ⟨hcw2, hfw2⟩ := bcell hbw2; have hzw2 := hbw2.size; (try simp at hzw2); have hk0w2 : w.heap.size < w2.heap.size := (by omega); have hk1w2 : w.heap.size + 1 < w2.heap.size := (by omega); have hk2w2 : w.heap.size + 1 + 1 < w2.heap.size := (by omega)
    go_wp2
    exact bodyPost_ret (v := ov 0 0 ⟨#[]⟩ 1) (by simp [results, Tryz.results20, go_sem, *]) rfl ⟨rfl, by repeat (first | exact Below.refl _ _ | assumption | exact Go.Proofs.YtdbhencjomnjhaaGreatDoor.V.below_drewN _ _ | (refine bel_trans ?_ (Go.Proofs.YtdbhencjomnjhaaGreatDoor.V.below_drewN _ _)) | (refine bel_trans ?_ (by assumption)) | (with_reducible apply bel_alloc) | (with_reducible apply Below.drew) | apply bel_alloc | apply Below.drew | refine bel_set ?_ (by simp; try omega) _)⟩
  | true =>
    have HX := Lib.hid hx
    rw [hx, Bool.true_and] at hno
    have HO := Lib.hid hno
    clear hx hno
    go_enter Tryz.func20, Tryz.ntmps20
    go_wp2_with fail
    refine (c_isValid x _).mono ?_; rintro e w1 ⟨rfl, hbw1⟩; obtain ⟨hcw1, hfw1⟩ := bcell hbw1; have hzw1 := hbw1.size; (try simp at hzw1); have hk0w1 : w.heap.size < w1.heap.size := (by omega); have hk1w1 : w.heap.size + 1 < w1.heap.size := (by omega); have hk2w1 : w.heap.size + 1 + 1 < w1.heap.size := (by omega)
    rw [HX.out]
    have B1 : Below w.heap.size w w1 := by repeat (first | exact Below.refl _ _ | assumption | exact Go.Proofs.YtdbhencjomnjhaaGreatDoor.V.below_drewN _ _ | (refine bel_trans ?_ (Go.Proofs.YtdbhencjomnjhaaGreatDoor.V.below_drewN _ _)) | (refine bel_trans ?_ (by assumption)) | (with_reducible apply bel_alloc) | (with_reducible apply Below.drew) | apply bel_alloc | apply Below.drew | refine bel_set ?_ (by simp; try omega) _)
    go_wp2_with fail
    refine (c_isColumn a n c e l hn _ (HL.out.below B1)).mono ?_; rintro e w2 ⟨rfl, hbw2⟩; obtain ⟨hcw2, hfw2⟩ := bcell hbw2; have hzw2 := hbw2.size; (try simp at hzw2); have hk0w2 : w.heap.size < w2.heap.size := (by omega); have hk1w2 : w.heap.size + 1 < w2.heap.size := (by omega); have hk2w2 : w.heap.size + 1 + 1 < w2.heap.size := (by omega)
    rw [HO.out]
    go_wp2_with fail
    refine (c_failing 1 _).mono ?_; rintro e w3 ⟨rfl, hbw3⟩; obtain ⟨hcw3, hfw3⟩ := bcell hbw3; have hzw3 := hbw3.size; (try simp at hzw3); have hk0w3 : w.heap.size < w3.heap.size := (by omega); have hk1w3 : w.heap.size + 1 < w3.heap.size := (by omega); have hk2w3 : w.heap.size + 1 + 1 < w3.heap.size := (by omega)
    go_wp2
    exact bodyPost_ret (v := ov 0 0 ⟨#[]⟩ 1) (by simp [results, Tryz.results20, go_sem, *]) rfl ⟨rfl, by repeat (first | exact Below.refl _ _ | assumption | exact Go.Proofs.YtdbhencjomnjhaaGreatDoor.V.below_drewN _ _ | (refine bel_trans ?_ (Go.Proofs.YtdbhencjomnjhaaGreatDoor.V.below_drewN _ _)) | (refine bel_trans ?_ (by assumption)) | (with_reducible apply bel_alloc) | (with_reducible apply Below.drew) | apply bel_alloc | apply Below.drew | refine bel_set ?_ (by simp; try omega) _)⟩
set_option maxRecDepth 100000 in
set_option maxHeartbeats 4000000 in
theorem c_In_err (x : Ot) (a : Option Addr) (n c : Nat) (e : Int) (l : List Rw) (hn : n ≤ 9223372036854775807) (hx : x.ok = true) (hc : okCol e (l.map (·.2)) = true) (he : lst x.e e ≠ 0) (w : World) (h : Rows2 w a n l) : Ret 20 #[enc x, outV a n c e] w (ov 0 0 ⟨#[]⟩ (lst x.e e)) := by
  have HL := Lib.hid h
  have HX := Lib.hid hx
  have HO := Lib.hid hc
  have hE := Lib.hid (errs_two x e)
  have he' : (lst x.e e != 0) = true := by simpa using he
  generalize lst x.e e = z at *
  clear h hx hc he
  go_enter Tryz.func20, Tryz.ntmps20
  go_wp2_with fail
  refine (c_isValid x _).mono ?_; rintro e w1 ⟨rfl, hbw1⟩; obtain ⟨hcw1, hfw1⟩ := bcell hbw1; have hzw1 := hbw1.size; (try simp at hzw1); have hk0w1 : w.heap.size < w1.heap.size := (by omega); have hk1w1 : w.heap.size + 1 < w1.heap.size := (by omega); have hk2w1 : w.heap.size + 1 + 1 < w1.heap.size := (by omega)
  rw [HX.out]
  have B1 : Below w.heap.size w w1 := by repeat (first | exact Below.refl _ _ | assumption | exact Go.Proofs.YtdbhencjomnjhaaGreatDoor.V.below_drewN _ _ | (refine bel_trans ?_ (Go.Proofs.YtdbhencjomnjhaaGreatDoor.V.below_drewN _ _)) | (refine bel_trans ?_ (by assumption)) | (with_reducible apply bel_alloc) | (with_reducible apply Below.drew) | apply bel_alloc | apply Below.drew | refine bel_set ?_ (by simp; try omega) _)
  go_wp2_with fail
  refine (c_isColumn a n c e l hn _ (HL.out.below B1)).mono ?_; rintro e w2 ⟨rfl, hbw2⟩; obtain ⟨hcw2, hfw2⟩ := bcell hbw2; have hzw2 := hbw2.size; (try simp at hzw2); have hk0w2 : w.heap.size < w2.heap.size := (by omega); have hk1w2 : w.heap.size + 1 < w2.heap.size := (by omega); have hk2w2 : w.heap.size + 1 + 1 < w2.heap.size := (by omega)
  rw [HO.out]
  have B2 : Hid (Below w.heap.size w w2) := bel_trans B1 hbw2
  have d0 : w2.cell? ⟨w.heap.size, 0, none⟩ = some (.int .u8 x.k) := by simp [*, go_sem, World.cell?_alloc_past]
  have d1 : w2.cell? ⟨w.heap.size, 1, none⟩ = some (.int .i64 x.n) := by simp [*, go_sem, World.cell?_alloc_past]
  have d2 : w2.cell? ⟨w.heap.size, 2, none⟩ = some (.string x.s) := by simp [*, go_sem, World.cell?_alloc_past]
  have d3 : w2.cell? ⟨w.heap.size, 3, none⟩ = some (.int .i64 x.e) := by simp [*, go_sem, World.cell?_alloc_past]
  have d4 : w2.cell? ⟨w.heap.size + 1, 1, none⟩ = some (.int .i64 e) := by simp [*, go_sem, World.cell?_alloc_past]
  have HX3 : Hid (Box w2 (w.heap.size + 1 + 1) nul) := by
    constructor <;> simp [*, go_sem, World.cell?_alloc_past, World.frozen?_alloc_past]
  clear hcw1 hfw1 hzw1 hk0w1 hk1w1 hk2w1 hcw2 hfw2 hzw2 hbw2 B1 hbw1
  go_wp2_with fail
  go_region_held3 (fun w' => w'.cell? ⟨w.heap.size, 0, none⟩ = some (.int .u8 x.k) ∧ w'.cell? ⟨w.heap.size, 1, none⟩ = some (.int .i64 x.n) ∧ w'.cell? ⟨w.heap.size, 2, none⟩ = some (.string x.s) ∧ w'.cell? ⟨w.heap.size, 3, none⟩ = some (.int .i64 x.e) ∧ w'.cell? ⟨w.heap.size + 1, 1, none⟩ = some (.int .i64 e)) (simp [*, go_sem, World.cell?_alloc_past, (show w2.drew.heap.size = w2.heap.size from rfl)])
    (first | (go_at_call 13; refine (c_failing e _).mono ?_; rintro e w3 ⟨rfl, hbw3⟩; obtain ⟨hcw3, hfw3⟩ := bcell hbw3; have hzw3 := hbw3.size; (try simp at hzw3); have hk0w3 : w.heap.size < w3.heap.size := (by omega); have hk1w3 : w.heap.size + 1 < w3.heap.size := (by omega); have hk2w3 : w.heap.size + 1 + 1 < w3.heap.size := (by omega)) | (go_at_call 40; refine (c_least _ 2 2 [x, fl e] (by omega) _ (outs_two _ x (fl e))).mono ?_; rw [hE.out]; rintro e2 w4 ⟨rfl, hbw4⟩; obtain ⟨hcw4, hfw4⟩ := bcell hbw4; have hzw4 := hbw4.size; (try simp at hzw4); have hk0w4 : w.heap.size < w4.heap.size := (by omega); have hk1w4 : w.heap.size + 1 < w4.heap.size := (by omega); have hk2w4 : w.heap.size + 1 + 1 < w4.heap.size := (by omega)))
  have B4 : Below w2.heap.size w2 w4 := by
    clear B2
    exact by repeat (first | exact Below.refl _ _ | assumption | exact Go.Proofs.YtdbhencjomnjhaaGreatDoor.V.below_drewN _ _ | (refine bel_trans ?_ (Go.Proofs.YtdbhencjomnjhaaGreatDoor.V.below_drewN _ _)) | (refine bel_trans ?_ (by assumption)) | (with_reducible apply bel_alloc) | (with_reducible apply Below.drew) | apply bel_alloc | apply Below.drew | refine bel_set ?_ (by simp; try omega) _)
  have HX4 := Lib.hid (HX3.out.below B4)
  have B4' : Hid (Below w.heap.size w w4) := bel_trans B2.out B4
  go_wp2_with fail
  refine (c_failing z _).mono ?_
  rintro e3 w5 ⟨rfl, hb5⟩
  obtain ⟨hx, f0, f1, f2, f3, g0, g1, g2, g3⟩ := HX4.out.below hb5
  have B5 : Hid (Below w.heap.size w w5) := bel_trans B4'.out hb5
  clear hb5 B4 hbw4 hcw4 hfw4
  go_wp2
  exact bodyPost_ret (v := ov 0 0 ⟨#[]⟩ z) (by simp [results, Tryz.results20, go_sem, *]) rfl ⟨rfl, bel_set (bel_set (bel_set (bel_set B5.out (by simp; omega) _) (by simp; omega) _) (by simp; omega) _) (by simp; omega) _⟩
end Go.Proofs.YtdbhencjomnjhaaGreatDoor.K
