/- Contracts of Read, of package value and of the reference, at any text, case by case. -/
import Derived.Test.YtjiilfbomcibjaaGreatDoorReadU
namespace Go.Proofs.YtjiilfbomcibjaaGreatDoor.V
open Go.ChangeShapes Go.WideShapes Go.ChangeAt Go.RowKit Go.Proofs.YtjiilfbomcibjaaGreatDoor.L
theorem rread_int (q : ByteArray) (n : Int) (h1 : ∀ w, Calls Tryz.prog 58 #[.string q] w fun e w' => e = .returned (.bool true) ∧ Below w.heap.size w w') (h2 : ∀ w, Calls Tryz.prog 59 #[.string q] w fun e w' => e = .returned (pair n 0) ∧ Below w.heap.size w w') (n1 : (q.toList == [78, 85, 76, 76]) = false) (n2 : (q.toList == [84, 82, 85, 69]) = false) (n3 : (q.toList == [70, 65, 76, 83, 69]) = false) (w : World) : Calls Tryz.prog 35 #[.string q] w fun e w' => e = .returned (.tuple #[val 1 n ⟨#[]⟩, .int .i64 0]) ∧ Below w.heap.size w w' := by
  have H1 := Lib.hid h1
  have H2 := Lib.hid h2
  clear h1 h2
  go_enter Tryz.func35, Tryz.ntmps35
  go_wp2_with fail
  refine (H1.out _).mono ?_
  rintro e w1 ⟨rfl, hb1⟩; obtain ⟨hc, hf⟩ := bcell hb1; have z1 : w.heap.size < w1.heap.size := Nat.lt_of_lt_of_le (by simp) hb1.size
  go_wp2_with fail
  refine (H2.out _).mono ?_
  rintro e w2 ⟨rfl, hb2⟩; obtain ⟨hc, hf⟩ := bcell hb2; have z2 : w.heap.size < w2.heap.size := Nat.lt_of_lt_of_le z1 hb2.size
  go_wp2_with fail
  refine (r_Int _ _).mono ?_
  rintro e w3 ⟨rfl, hb3⟩; obtain ⟨hc, hf⟩ := bcell hb3; have z3 : w.heap.size < w3.heap.size := Nat.lt_of_lt_of_le z2 hb3.size
  go_wp2
  have q (o : Nat) (v : Value) (h : (w.alloc (Obj.cells #[Value.int IntKind.u8 0, Value.int IntKind.i64 0, Value.string { data := #[] }] 24)).cell? ⟨w.heap.size, o, none⟩ = some v) : w3.cell? ⟨w.heap.size, o, none⟩ = some v :=
    (cell_below hb3 (cell_below hb2 (cell_below hb1 h)))
  have q0 := q 0 _ (by simp [go_sem]; rfl)
  have q1 := q 1 _ (by simp [go_sem]; rfl)
  have q2 := q 2 _ (by simp [go_sem]; rfl)
  exact bodyPost_ret (v := .tuple #[val 1 n ⟨#[]⟩, .int .i64 0]) (by simp [results, Tryz.results35, go_sem, q0, q1, q2]) rfl ⟨rfl, by repeat (first | exact Below.refl _ _ | (refine bel_trans ?_ (by assumption)) | apply bel_alloc | apply Below.drew | refine bel_set ?_ (by simp) _)⟩
theorem rread_over (q : ByteArray) (h1 : ∀ w, Calls Tryz.prog 58 #[.string q] w fun e w' => e = .returned (.bool true) ∧ Below w.heap.size w w') (h2 : ∀ w, Calls Tryz.prog 59 #[.string q] w fun e w' => e = .returned (pair 0 4) ∧ Below w.heap.size w w') (n1 : (q.toList == [78, 85, 76, 76]) = false) (n2 : (q.toList == [84, 82, 85, 69]) = false) (n3 : (q.toList == [70, 65, 76, 83, 69]) = false) (w : World) : Calls Tryz.prog 35 #[.string q] w fun e w' => e = .returned (.tuple #[val 0 0 ⟨#[]⟩, .int .i64 4]) ∧ Below w.heap.size w w' := by
  have H1 := Lib.hid h1
  have H2 := Lib.hid h2
  clear h1 h2
  go_enter Tryz.func35, Tryz.ntmps35
  go_wp2_with fail
  refine (H1.out _).mono ?_
  rintro e w1 ⟨rfl, hb1⟩; obtain ⟨hc, hf⟩ := bcell hb1; have z1 : w.heap.size < w1.heap.size := Nat.lt_of_lt_of_le (by simp) hb1.size
  go_wp2_with fail
  refine (H2.out _).mono ?_
  rintro e w2 ⟨rfl, hb2⟩; obtain ⟨hc, hf⟩ := bcell hb2; have z2 : w.heap.size < w2.heap.size := Nat.lt_of_lt_of_le z1 hb2.size
  go_wp2
  have q (o : Nat) (v : Value) (h : (w.alloc (Obj.cells #[Value.int IntKind.u8 0, Value.int IntKind.i64 0, Value.string { data := #[] }] 24)).cell? ⟨w.heap.size, o, none⟩ = some v) : w2.cell? ⟨w.heap.size, o, none⟩ = some v :=
    (cell_below hb2 (cell_below hb1 h))
  have q0 := q 0 _ (by simp [go_sem]; rfl)
  have q1 := q 1 _ (by simp [go_sem]; rfl)
  have q2 := q 2 _ (by simp [go_sem]; rfl)
  exact bodyPost_ret (v := .tuple #[val 0 0 ⟨#[]⟩, .int .i64 4]) (by simp [results, Tryz.results35, go_sem, q0, q1, q2]) rfl ⟨rfl, by repeat (first | exact Below.refl _ _ | (refine bel_trans ?_ (by assumption)) | apply bel_alloc | apply Below.drew | refine bel_set ?_ (by simp) _)⟩
theorem rread_text (q t : ByteArray) (a b : Int) (c : ByteArray) (x : Int) (h1 : ∀ w, Calls Tryz.prog 58 #[.string q] w fun e w' => e = .returned (.bool false) ∧ Below w.heap.size w w') (h2 : ∀ w, Calls Tryz.prog 61 #[.string q] w fun e w' => e = .returned (.tuple #[.string t, .bool true]) ∧ Below w.heap.size w w') (h3 : ∀ w, Calls Tryz.prog 62 #[.string t] w fun e w' => e = .returned (.tuple #[val a b c, .int .i64 x]) ∧ Below w.heap.size w w') (n1 : (q.toList == [78, 85, 76, 76]) = false) (n2 : (q.toList == [84, 82, 85, 69]) = false) (n3 : (q.toList == [70, 65, 76, 83, 69]) = false) (w : World) : Calls Tryz.prog 35 #[.string q] w fun e w' => e = .returned (.tuple #[val a b c, .int .i64 x]) ∧ Below w.heap.size w w' := by
  have H1 := Lib.hid h1
  have H2 := Lib.hid h2
  have H3 := Lib.hid h3
  clear h1 h2 h3
  go_enter Tryz.func35, Tryz.ntmps35
  go_wp2_with fail
  refine (H1.out _).mono ?_
  rintro e w1 ⟨rfl, hb1⟩; obtain ⟨hc, hf⟩ := bcell hb1; have z1 : w.heap.size < w1.heap.size := Nat.lt_of_lt_of_le (by simp) hb1.size
  go_wp2_with fail
  refine (H2.out _).mono ?_
  rintro e w2 ⟨rfl, hb2⟩; obtain ⟨hc, hf⟩ := bcell hb2; have z2 : w.heap.size < w2.heap.size := Nat.lt_of_lt_of_le z1 hb2.size
  go_wp2_with fail
  refine (H3.out _).mono ?_
  rintro e w3 ⟨rfl, hb3⟩; obtain ⟨hc, hf⟩ := bcell hb3; have z3 : w.heap.size < w3.heap.size := Nat.lt_of_lt_of_le z2 hb3.size
  go_wp2
  have q (o : Nat) (v : Value) (h : (w.alloc (Obj.cells #[Value.int IntKind.u8 0, Value.int IntKind.i64 0, Value.string { data := #[] }] 24)).cell? ⟨w.heap.size, o, none⟩ = some v) : w3.cell? ⟨w.heap.size, o, none⟩ = some v :=
    (cell_below hb3 (cell_below hb2 (cell_below hb1 h)))
  have q0 := q 0 _ (by simp [go_sem]; rfl)
  have q1 := q 1 _ (by simp [go_sem]; rfl)
  have q2 := q 2 _ (by simp [go_sem]; rfl)
  exact bodyPost_ret (v := .tuple #[val a b c, .int .i64 x]) (by simp [results, Tryz.results35, go_sem, q0, q1, q2]) rfl ⟨rfl, by repeat (first | exact Below.refl _ _ | (refine bel_trans ?_ (by assumption)) | apply bel_alloc | apply Below.drew | refine bel_set ?_ (by simp) _)⟩
theorem rread_bad (q : ByteArray) (h1 : ∀ w, Calls Tryz.prog 58 #[.string q] w fun e w' => e = .returned (.bool false) ∧ Below w.heap.size w w') (h2 : ∀ w, Calls Tryz.prog 61 #[.string q] w fun e w' => e = .returned (.tuple #[.string ⟨#[]⟩, .bool false]) ∧ Below w.heap.size w w') (n1 : (q.toList == [78, 85, 76, 76]) = false) (n2 : (q.toList == [84, 82, 85, 69]) = false) (n3 : (q.toList == [70, 65, 76, 83, 69]) = false) (w : World) : Calls Tryz.prog 35 #[.string q] w fun e w' => e = .returned (.tuple #[val 0 0 ⟨#[]⟩, .int .i64 1]) ∧ Below w.heap.size w w' := by
  have H1 := Lib.hid h1
  have H2 := Lib.hid h2
  clear h1 h2
  go_enter Tryz.func35, Tryz.ntmps35
  go_wp2_with fail
  refine (H1.out _).mono ?_
  rintro e w1 ⟨rfl, hb1⟩; obtain ⟨hc, hf⟩ := bcell hb1; have z1 : w.heap.size < w1.heap.size := Nat.lt_of_lt_of_le (by simp) hb1.size
  go_wp2_with fail
  refine (H2.out _).mono ?_
  rintro e w2 ⟨rfl, hb2⟩; obtain ⟨hc, hf⟩ := bcell hb2; have z2 : w.heap.size < w2.heap.size := Nat.lt_of_lt_of_le z1 hb2.size
  go_wp2
  have q (o : Nat) (v : Value) (h : (w.alloc (Obj.cells #[Value.int IntKind.u8 0, Value.int IntKind.i64 0, Value.string { data := #[] }] 24)).cell? ⟨w.heap.size, o, none⟩ = some v) : w2.cell? ⟨w.heap.size, o, none⟩ = some v :=
    (cell_below hb2 (cell_below hb1 h))
  have q0 := q 0 _ (by simp [go_sem]; rfl)
  have q1 := q 1 _ (by simp [go_sem]; rfl)
  have q2 := q 2 _ (by simp [go_sem]; rfl)
  exact bodyPost_ret (v := .tuple #[val 0 0 ⟨#[]⟩, .int .i64 1]) (by simp [results, Tryz.results35, go_sem, q0, q1, q2]) rfl ⟨rfl, by repeat (first | exact Below.refl _ _ | (refine bel_trans ?_ (by assumption)) | apply bel_alloc | apply Below.drew | refine bel_set ?_ (by simp) _)⟩
theorem rread_null (w : World) : Calls Tryz.prog 35 #[.string ⟨#[78, 85, 76, 76]⟩] w fun e w' => e = .returned (.tuple #[val 0 0 ⟨#[]⟩, .int .i64 0]) ∧ Below w.heap.size w w' := by
  go_enter Tryz.func35, Tryz.ntmps35
  go_wp2
  exact bodyPost_ret (v := .tuple #[val 0 0 ⟨#[]⟩, .int .i64 0]) (by simp [results, Tryz.results35, go_sem]) rfl ⟨rfl, by repeat (first | exact Below.refl _ _ | (refine bel_trans ?_ (by assumption)) | apply bel_alloc | apply Below.drew | refine bel_set ?_ (by simp) _)⟩
theorem rread_true  (w : World) : Calls Tryz.prog 35 #[.string ⟨#[84, 82, 85, 69]⟩] w fun e w' => e = .returned (.tuple #[val 3 1 ⟨#[]⟩, .int .i64 0]) ∧ Below w.heap.size w w' := by
  have RB := Lib.hid (show ∀ w, Calls Tryz.prog 57 #[.bool true] w fun e w' => e = .returned (val 3 1 ⟨#[]⟩) ∧ Below w.heap.size w w' from r_Bool true)
  go_enter Tryz.func35, Tryz.ntmps35
  go_wp2_with fail
  refine (RB.out _).mono ?_
  rintro e w1 ⟨rfl, hb1⟩; obtain ⟨hc, hf⟩ := bcell hb1; have z1 : w.heap.size < w1.heap.size := Nat.lt_of_lt_of_le (by simp) hb1.size
  go_wp2
  have q (o : Nat) (v : Value) (h : (w.alloc (Obj.cells #[Value.int IntKind.u8 0, Value.int IntKind.i64 0, Value.string { data := #[] }] 24)).cell? ⟨w.heap.size, o, none⟩ = some v) : w1.cell? ⟨w.heap.size, o, none⟩ = some v :=
    (cell_below hb1 h)
  have q0 := q 0 _ (by simp [go_sem]; rfl)
  have q1 := q 1 _ (by simp [go_sem]; rfl)
  have q2 := q 2 _ (by simp [go_sem]; rfl)
  exact bodyPost_ret (v := .tuple #[val 3 1 ⟨#[]⟩, .int .i64 0]) (by simp [results, Tryz.results35, go_sem, q0, q1, q2]) rfl ⟨rfl, by repeat (first | exact Below.refl _ _ | (refine bel_trans ?_ (by assumption)) | apply bel_alloc | apply Below.drew | refine bel_set ?_ (by simp) _)⟩
theorem rread_false  (w : World) : Calls Tryz.prog 35 #[.string ⟨#[70, 65, 76, 83, 69]⟩] w fun e w' => e = .returned (.tuple #[val 3 0 ⟨#[]⟩, .int .i64 0]) ∧ Below w.heap.size w w' := by
  have RB := Lib.hid (show ∀ w, Calls Tryz.prog 57 #[.bool false] w fun e w' => e = .returned (val 3 0 ⟨#[]⟩) ∧ Below w.heap.size w w' from r_Bool false)
  go_enter Tryz.func35, Tryz.ntmps35
  go_wp2_with fail
  refine (RB.out _).mono ?_
  rintro e w1 ⟨rfl, hb1⟩; obtain ⟨hc, hf⟩ := bcell hb1; have z1 : w.heap.size < w1.heap.size := Nat.lt_of_lt_of_le (by simp) hb1.size
  go_wp2
  have q (o : Nat) (v : Value) (h : (w.alloc (Obj.cells #[Value.int IntKind.u8 0, Value.int IntKind.i64 0, Value.string { data := #[] }] 24)).cell? ⟨w.heap.size, o, none⟩ = some v) : w1.cell? ⟨w.heap.size, o, none⟩ = some v :=
    (cell_below hb1 h)
  have q0 := q 0 _ (by simp [go_sem]; rfl)
  have q1 := q 1 _ (by simp [go_sem]; rfl)
  have q2 := q 2 _ (by simp [go_sem]; rfl)
  exact bodyPost_ret (v := .tuple #[val 3 0 ⟨#[]⟩, .int .i64 0]) (by simp [results, Tryz.results35, go_sem, q0, q1, q2]) rfl ⟨rfl, by repeat (first | exact Below.refl _ _ | (refine bel_trans ?_ (by assumption)) | apply bel_alloc | apply Below.drew | refine bel_set ?_ (by simp) _)⟩
/-! ### Package value -/
theorem read_any_int (q : ByteArray) (a b : Int) (c : ByteArray) (x : Int) (h1 : ∀ w, Calls Tryz.prog 53 #[.string q] w fun e w' => e = .returned (.bool true) ∧ Below w.heap.size w w') (h2 : ∀ w, Env w → Calls Tryz.prog 54 #[.string q] w fun e w' => e = .returned (.tuple #[val a b c, .int .i64 x]) ∧ Below w.heap.size w w') (n1 : (q.toList == [78, 85, 76, 76]) = false) (n2 : (q.toList == [84, 82, 85, 69]) = false) (n3 : (q.toList == [70, 65, 76, 83, 69]) = false) (w : World) (E : Env w) : Calls Tryz.prog 34 #[.string q] w fun e w' => e = .returned (.tuple #[val a b c, .int .i64 x]) ∧ Below w.heap.size w w' := by
  have H1 := Lib.hid h1
  have H2 := Lib.hid h2
  clear h1 h2
  go_enter Tryz.func34, Tryz.ntmps34
  go_wp2_with fail
  refine (H1.out _).mono ?_
  rintro e w1 ⟨rfl, hb1⟩; obtain ⟨hc, hf⟩ := bcell hb1; have z1 : w.heap.size < w1.heap.size := Nat.lt_of_lt_of_le (by simp) hb1.size
  go_wp2_with fail
  refine (H2.out _ ((E.alloc _).below hb1)).mono ?_
  rintro e w2 ⟨rfl, hb2⟩; obtain ⟨hc, hf⟩ := bcell hb2; have z2 : w.heap.size < w2.heap.size := Nat.lt_of_lt_of_le z1 hb2.size
  go_wp2
  have q (o : Nat) (v : Value) (h : (w.alloc (Obj.cells #[Value.int IntKind.u8 0, Value.int IntKind.i64 0, Value.string { data := #[] }] 24)).cell? ⟨w.heap.size, o, none⟩ = some v) : w2.cell? ⟨w.heap.size, o, none⟩ = some v :=
    (cell_below hb2 (cell_below hb1 h))
  have q0 := q 0 _ (by simp [go_sem]; rfl)
  have q1 := q 1 _ (by simp [go_sem]; rfl)
  have q2 := q 2 _ (by simp [go_sem]; rfl)
  exact bodyPost_ret (v := .tuple #[val a b c, .int .i64 x]) (by simp [results, Tryz.results34, go_sem, q0, q1, q2]) rfl ⟨rfl, by repeat (first | exact Below.refl _ _ | (refine bel_trans ?_ (by assumption)) | apply bel_alloc | apply Below.drew | refine bel_set ?_ (by simp) _)⟩
theorem read_any_text (q i t : ByteArray) (a b : Int) (c : ByteArray) (x : Int) (h1 : ∀ w, Calls Tryz.prog 53 #[.string q] w fun e w' => e = .returned (.bool false) ∧ Below w.heap.size w w') (h2 : ∀ w, Env w → Calls Tryz.prog 55 #[.string q] w fun e w' => e = .returned (.tuple #[.string i, .bool true]) ∧ Below w.heap.size w w') (h3 : ∀ w, Env w → Calls Tryz.prog 52 #[.string i, .string ⟨#[39, 39]⟩, .string ⟨#[39]⟩] w fun e w' => e = .returned (.string t) ∧ Below w.heap.size w w') (h4 : ∀ w, Calls Tryz.prog 56 #[.string t] w fun e w' => e = .returned (.tuple #[val a b c, .int .i64 x]) ∧ Below w.heap.size w w') (n1 : (q.toList == [78, 85, 76, 76]) = false) (n2 : (q.toList == [84, 82, 85, 69]) = false) (n3 : (q.toList == [70, 65, 76, 83, 69]) = false) (w : World) (E : Env w) : Calls Tryz.prog 34 #[.string q] w fun e w' => e = .returned (.tuple #[val a b c, .int .i64 x]) ∧ Below w.heap.size w w' := by
  have H1 := Lib.hid h1
  have H2 := Lib.hid h2
  have H3 := Lib.hid h3
  have H4 := Lib.hid h4
  clear h1 h2 h3 h4
  go_enter Tryz.func34, Tryz.ntmps34
  go_wp2_with fail
  refine (H1.out _).mono ?_
  rintro e w1 ⟨rfl, hb1⟩; obtain ⟨hc, hf⟩ := bcell hb1; have z1 : w.heap.size < w1.heap.size := Nat.lt_of_lt_of_le (by simp) hb1.size; have E1 := (E.alloc _).below hb1
  go_wp2_with fail
  refine (H2.out _ E1).mono ?_
  rintro e w2 ⟨rfl, hb2⟩; obtain ⟨hc, hf⟩ := bcell hb2; have z2 : w.heap.size < w2.heap.size := Nat.lt_of_lt_of_le z1 hb2.size; have E2 := E1.below hb2
  go_wp2_with fail
  refine (H3.out _ E2).mono ?_
  rintro e w3 ⟨rfl, hb3⟩; obtain ⟨hc, hf⟩ := bcell hb3; have z3 : w.heap.size < w3.heap.size := Nat.lt_of_lt_of_le z2 hb3.size; have E3 := E2.below hb3
  go_wp2_with fail
  refine (H4.out _).mono ?_
  rintro e w4 ⟨rfl, hb4⟩; obtain ⟨hc, hf⟩ := bcell hb4; have z4 : w.heap.size < w4.heap.size := Nat.lt_of_lt_of_le z3 hb4.size; have E4 := E3.below hb4
  go_wp2
  have q (o : Nat) (v : Value) (h : (w.alloc (Obj.cells #[Value.int IntKind.u8 0, Value.int IntKind.i64 0, Value.string { data := #[] }] 24)).cell? ⟨w.heap.size, o, none⟩ = some v) : w4.cell? ⟨w.heap.size, o, none⟩ = some v :=
    (cell_below hb4 (cell_below hb3 (cell_below hb2 (cell_below hb1 h))))
  have q0 := q 0 _ (by simp [go_sem]; rfl)
  have q1 := q 1 _ (by simp [go_sem]; rfl)
  have q2 := q 2 _ (by simp [go_sem]; rfl)
  exact bodyPost_ret (v := .tuple #[val a b c, .int .i64 x]) (by simp [results, Tryz.results34, go_sem, q0, q1, q2]) rfl ⟨rfl, by repeat (first | exact Below.refl _ _ | (refine bel_trans ?_ (by assumption)) | apply bel_alloc | apply Below.drew | refine bel_set ?_ (by simp) _)⟩
theorem read_bad (q : ByteArray) (h1 : ∀ w, Calls Tryz.prog 53 #[.string q] w fun e w' => e = .returned (.bool false) ∧ Below w.heap.size w w') (h2 : ∀ w, Env w → Calls Tryz.prog 55 #[.string q] w fun e w' => e = .returned (.tuple #[.string ⟨#[]⟩, .bool false]) ∧ Below w.heap.size w w') (n1 : (q.toList == [78, 85, 76, 76]) = false) (n2 : (q.toList == [84, 82, 85, 69]) = false) (n3 : (q.toList == [70, 65, 76, 83, 69]) = false) (w : World) (E : Env w) : Calls Tryz.prog 34 #[.string q] w fun e w' => e = .returned (.tuple #[val 0 0 ⟨#[]⟩, .int .i64 1]) ∧ Below w.heap.size w w' := by
  have H1 := Lib.hid h1
  have H2 := Lib.hid h2
  clear h1 h2
  go_enter Tryz.func34, Tryz.ntmps34
  go_wp2_with fail
  refine (H1.out _).mono ?_
  rintro e w1 ⟨rfl, hb1⟩; obtain ⟨hc, hf⟩ := bcell hb1; have z1 : w.heap.size < w1.heap.size := Nat.lt_of_lt_of_le (by simp) hb1.size; have E1 := (E.alloc _).below hb1
  go_wp2_with fail
  refine (H2.out _ E1).mono ?_
  rintro e w2 ⟨rfl, hb2⟩; obtain ⟨hc, hf⟩ := bcell hb2; have z2 : w.heap.size < w2.heap.size := Nat.lt_of_lt_of_le z1 hb2.size; have E2 := E1.below hb2
  go_wp2
  have q (o : Nat) (v : Value) (h : (w.alloc (Obj.cells #[Value.int IntKind.u8 0, Value.int IntKind.i64 0, Value.string { data := #[] }] 24)).cell? ⟨w.heap.size, o, none⟩ = some v) : w2.cell? ⟨w.heap.size, o, none⟩ = some v :=
    (cell_below hb2 (cell_below hb1 h))
  have q0 := q 0 _ (by simp [go_sem]; rfl)
  have q1 := q 1 _ (by simp [go_sem]; rfl)
  have q2 := q 2 _ (by simp [go_sem]; rfl)
  exact bodyPost_ret (v := .tuple #[val 0 0 ⟨#[]⟩, .int .i64 1]) (by simp [results, Tryz.results34, go_sem, q0, q1, q2]) rfl ⟨rfl, by repeat (first | exact Below.refl _ _ | (refine bel_trans ?_ (by assumption)) | apply bel_alloc | apply Below.drew | refine bel_set ?_ (by simp) _)⟩
theorem readInt_over (q : ByteArray) (hq : q.size ≤ 281474976710656) (h : Lib.parseIntB 64 q.data.toList = .range) (w : World) (E : Env w) :
    Calls Tryz.prog 54 #[.string q] w fun e w' => e = .returned (.tuple #[val 0 0 ⟨#[]⟩, .int .i64 4]) ∧ Below w.heap.size w w' := by
  obtain ⟨tp, p, hv⟩ := (E.alloc (Obj.cells #[Value.int IntKind.u8 0, Value.int IntKind.i64 0, Value.string { data := #[] }] 24)).range
  have H := Lib.hid (Tryz.strconv_ParseInt_10_at64_range_var q hq h tp p _ hv)
  clear hv h
  go_enter Tryz.func54, Tryz.ntmps54
  go_wp2_with fail
  refine H.out.mono ?_
  rintro e w1 ⟨N, rfl, _, _, hb1⟩; obtain ⟨hc, hf⟩ := bcell hb1; have z1 : w.heap.size < w1.heap.size := Nat.lt_of_lt_of_le (by simp) hb1.size
  go_wp2
  have q (o : Nat) (v : Value) (h : (w.alloc (Obj.cells #[Value.int IntKind.u8 0, Value.int IntKind.i64 0, Value.string { data := #[] }] 24)).cell? ⟨w.heap.size, o, none⟩ = some v) : w1.cell? ⟨w.heap.size, o, none⟩ = some v :=
    (cell_below hb1 h)
  have q0 := q 0 _ (by simp [go_sem]; rfl)
  have q1 := q 1 _ (by simp [go_sem]; rfl)
  have q2 := q 2 _ (by simp [go_sem]; rfl)
  exact bodyPost_ret (v := .tuple #[val 0 0 ⟨#[]⟩, .int .i64 4]) (by simp [results, Tryz.results54, go_sem, q0, q1, q2]) rfl ⟨rfl, by repeat (first | exact Below.refl _ _ | (refine bel_trans ?_ (by assumption)) | apply bel_alloc | apply Below.drew | refine bel_set ?_ (by simp) _)⟩
theorem quoted_open (q r t : ByteArray) (b : Bool) (h1 : ∀ w, Calls Tryz.prog 72 #[.string q, .string ⟨#[39]⟩] w fun e w' => e = .returned (.tuple #[.string r, .bool false]) ∧ w = w')
    (h2 : ∀ w, Calls Tryz.prog 75 #[.string r, .string ⟨#[39]⟩] w fun e w' => e = .returned (.tuple #[.string t, .bool b]) ∧ w = w') (w : World) :
    Calls Tryz.prog 55 #[.string q] w fun e w' => e = .returned (.tuple #[.string ⟨#[]⟩, .bool false]) ∧ Below w.heap.size w w' := by
  have H1 := Lib.hid h1
  have H2 := Lib.hid h2
  clear h1 h2
  go_enter Tryz.func55, Tryz.ntmps55
  go_wp2_with (first | (go_at_call 72; refine (H1.out _).mono ?_; rintro e w' ⟨rfl, rfl⟩) | (go_at_call 75; refine (H2.out _).mono ?_; rintro e w' ⟨rfl, rfl⟩))
  go_ret2
  exact ⟨rfl, by repeat (first | exact Below.refl _ _ | (refine bel_trans ?_ (by assumption)) | apply bel_alloc | apply Below.drew)⟩
theorem quoted_shut (q r t : ByteArray) (h1 : ∀ w, Calls Tryz.prog 72 #[.string q, .string ⟨#[39]⟩] w fun e w' => e = .returned (.tuple #[.string r, .bool true]) ∧ w = w')
    (h2 : ∀ w, Calls Tryz.prog 75 #[.string r, .string ⟨#[39]⟩] w fun e w' => e = .returned (.tuple #[.string t, .bool false]) ∧ w = w') (w : World) :
    Calls Tryz.prog 55 #[.string q] w fun e w' => e = .returned (.tuple #[.string ⟨#[]⟩, .bool false]) ∧ Below w.heap.size w w' := by
  have H1 := Lib.hid h1
  have H2 := Lib.hid h2
  clear h1 h2
  go_enter Tryz.func55, Tryz.ntmps55
  go_wp2_with (first | (go_at_call 72; refine (H1.out _).mono ?_; rintro e w' ⟨rfl, rfl⟩) | (go_at_call 75; refine (H2.out _).mono ?_; rintro e w' ⟨rfl, rfl⟩))
  go_ret2
  exact ⟨rfl, by repeat (first | exact Below.refl _ _ | (refine bel_trans ?_ (by assumption)) | apply bel_alloc | apply Below.drew)⟩
theorem quoted_odd (q r i g : ByteArray) (h1 : ∀ w, Calls Tryz.prog 72 #[.string q, .string ⟨#[39]⟩] w fun e w' => e = .returned (.tuple #[.string r, .bool true]) ∧ w = w')
    (h2 : ∀ w, Calls Tryz.prog 75 #[.string r, .string ⟨#[39]⟩] w fun e w' => e = .returned (.tuple #[.string i, .bool true]) ∧ w = w')
    (h3 : ∀ w, Env w → Calls Tryz.prog 52 #[.string i, .string ⟨#[39, 39]⟩, .string ⟨#[]⟩] w fun e w' => e = .returned (.string g) ∧ Below w.heap.size w w')
    (h4 : ∀ w, Calls Tryz.prog 76 #[.string g, .string ⟨#[39]⟩] w fun e w' => e = .returned (.bool true) ∧ w = w') (w : World) (E : Env w) :
    Calls Tryz.prog 55 #[.string q] w fun e w' => e = .returned (.tuple #[.string ⟨#[]⟩, .bool false]) ∧ Below w.heap.size w w' := by
  have H1 := Lib.hid h1
  have H2 := Lib.hid h2
  have H3 := Lib.hid h3
  have H4 := Lib.hid h4
  clear h1 h2 h3 h4
  go_enter Tryz.func55, Tryz.ntmps55
  go_wp2_with (first | (go_at_call 72; refine (H1.out _).mono ?_; rintro e w' ⟨rfl, rfl⟩) | (go_at_call 75; refine (H2.out _).mono ?_; rintro e w' ⟨rfl, rfl⟩) | (go_at_call 52; refine (H3.out _ E).mono ?_; rintro e w' ⟨rfl, hb⟩) | (go_at_call 76; refine (H4.out _).mono ?_; rintro e w' ⟨rfl, rfl⟩))
  go_ret2
  exact ⟨rfl, by repeat (first | exact Below.refl _ _ | (refine bel_trans ?_ (by assumption)) | apply bel_alloc | apply Below.drew)⟩
/-! ### isInteger at any text -/
theorem isInt_z (q : ByteArray) (neg : Bool) (hcut : ∀ w, Calls Tryz.prog 72 #[.string q, .string ⟨#[45]⟩] w fun e w' => e = .returned (.tuple #[.string ⟨#[48]⟩, .bool neg]) ∧ w = w') (w : World) :
    Calls Tryz.prog 53 #[.string q] w fun e w' => e = .returned (.bool (!neg)) ∧ Below w.heap.size w w' := by
  have H1 := Lib.hid hcut
  clear hcut
  go_enter Tryz.func53, Tryz.ntmps53
  go_wp2_with (first | (go_at_call 72; refine (H1.out _).mono ?_; rintro e w' ⟨rfl, rfl⟩))
  go_ret
  exact ⟨ret_bool (by simp), Below.refl _ _⟩
theorem isInt_empty (q : ByteArray) (neg : Bool) (hcut : ∀ w, Calls Tryz.prog 72 #[.string q, .string ⟨#[45]⟩] w fun e w' => e = .returned (.tuple #[.string ⟨#[]⟩, .bool neg]) ∧ w = w') (w : World) :
    Calls Tryz.prog 53 #[.string q] w fun e w' => e = .returned (.bool false) ∧ Below w.heap.size w w' := by
  have H1 := Lib.hid hcut
  clear hcut
  go_enter Tryz.func53, Tryz.ntmps53
  go_wp2_with (first | (go_at_call 72; refine (H1.out _).mono ?_; rintro e w' ⟨rfl, rfl⟩))
  go_ret
  exact ⟨rfl, Below.refl _ _⟩
theorem isInt_lead (q d : ByteArray) (neg : Bool) (hcut : ∀ w, Calls Tryz.prog 72 #[.string q, .string ⟨#[45]⟩] w fun e w' => e = .returned (.tuple #[.string d, .bool neg]) ∧ w = w') (h1 : 0 < d.size)
    (e0 : (d.toList == [48]) = false) (e1 : d.toList.isEmpty = false) (e2 : (d[0].toNat : Int) = 48) (w : World) :
    Calls Tryz.prog 53 #[.string q] w fun e w' => e = .returned (.bool false) ∧ Below w.heap.size w w' := by
  have H1 := Lib.hid hcut
  have e3 : ((d[0].toNat : Int) != 48) = false := by simpa using e2
  clear hcut
  go_enter Tryz.func53, Tryz.ntmps53
  go_wp2_with (first | (go_at_call 72; refine (H1.out _).mono ?_; rintro e w' ⟨rfl, rfl⟩))
  go_ret
  exact ⟨ret_bool (by simp), Below.refl _ _⟩
theorem isInt_tail (q d t : ByteArray) (neg b : Bool) (hcut : ∀ w, Calls Tryz.prog 72 #[.string q, .string ⟨#[45]⟩] w fun e w' => e = .returned (.tuple #[.string d, .bool neg]) ∧ w = w')
    (htrim : ∀ w, Calls Tryz.prog 73 #[.string d, .string ⟨#[48, 49, 50, 51, 52, 53, 54, 55, 56, 57]⟩] w fun e w' => e = .returned (.string t) ∧ Below w.heap.size w w') (h1 : 0 < d.size)
    (e0 : (d.toList == [48]) = false) (e1 : d.toList.isEmpty = false) (e2 : ¬ ((d[0].toNat : Int) = 48)) (e4 : t.toList.isEmpty = b) (w : World) :
    Calls Tryz.prog 53 #[.string q] w fun e w' => e = .returned (.bool b) ∧ Below w.heap.size w w' := by
  have H1 := Lib.hid hcut
  have H2 := Lib.hid htrim
  have e3 : ((d[0].toNat : Int) != 48) = true := by simpa using e2
  clear hcut htrim e2
  go_enter Tryz.func53, Tryz.ntmps53
  go_wp2_with (first | (go_at_call 72; refine (H1.out _).mono ?_; rintro e w' ⟨rfl, rfl⟩) | (go_at_call 73; refine (H2.out _).mono ?_; rintro e w' ⟨rfl, hb⟩))
  all_goals (go_ret; exact ⟨ret_bool (by simp [*]), by repeat (first | exact Below.refl _ _ | assumption)⟩)
end Go.Proofs.YtjiilfbomcibjaaGreatDoor.V
