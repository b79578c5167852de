/- Arithmetic: a map of functions; what each comes to. -/
import Derived.Test.YtefelelhgepkeaaGreatDoorUa
import Derived.Test.YtefelelhgepkeaaGreatDoorMul
import Derived.MapKept
import Derived.Carry
namespace Go.Proofs.YtefelelhgepkeaaGreatDoor.U
open Go.ChangeShapes Go.WideShapes Go.ChangeAt Go.RowKit Go.Proofs.YtefelelhgepkeaaGreatDoor.V Go.Proofs.YtefelelhgepkeaaGreatDoor.K Go.Proofs.YtefelelhgepkeaaGreatDoor.T
/-- The entries of a map of operators to functions. -/
def ents : Nat → List (Int × Nat) → List MapEntry
  | _, [] => []
  | i, x :: l => { key := .int .u8 x.1, val := .func (.func x.2) #[] #[], born := i } :: ents (i + 1) l
theorem ents_snoc (x : Int × Nat) : ∀ (l : List (Int × Nat)) (i : Nat), ents i (l ++ [x]) = ents i l ++ [{ key := .int .u8 x.1, val := .func (.func x.2) #[] #[], born := i + l.length }]
  | [], i => rfl
  | y :: l, i => by
    rw [List.cons_append, ents, ents_snoc x l (i + 1), ents, List.cons_append, List.length_cons]
    congr 4
    omega
theorem find_ents (s : Int) : ∀ (l : List (Int × Nat)) (i j : Nat), ∃ r, Instr.findNow (.int .u8) (.int .u8 s) (ents i l) j = some r ∧ r.map (·.2) = (l.lookup s).map fun v => Value.func (.func v) #[] #[]
  | [], _, _ => ⟨none, rfl, rfl⟩
  | x :: l, i, j => by
    obtain ⟨r, h1, h2⟩ := find_ents s l (i + 1) (j + 1)
    rw [ents, Instr.findNow, List.lookup]
    simp only [Instr.sameNow]
    cases s == x.1
    · exact ⟨r, h1, h2⟩
    · exact ⟨_, rfl, rfl⟩
/-- A world with a new map. -/
def mapW (W : World) (l : List (Int × Nat)) : World := W.alloc (.map (ents 0 l).toArray l.length)
theorem mapW_heap (W : World) (l : List (Int × Nat)) : (mapW W l).heap[W.heap.size]? = some (.map (ents 0 l).toArray l.length) := heap_alloc_new _ _
theorem mapW_below (W : World) (l : List (Int × Nat)) : Below W.heap.size W (mapW W l) := (Below.refl _ W).alloc (Nat.le_refl _) _
theorem run_make (T : TypeId) (W : World) : (Instr.makeMap T none).run Tryz.prog W = .ok (.map (some W.heap.size)) (mapW W []) := run_makeMap T W
theorem alloc_set (W : World) (o o' : Obj) : { W.alloc o with heap := (W.alloc o).heap.setIfInBounds W.heap.size o' } = W.alloc o' := by
  simp only [World.alloc]
  congr 1
  apply Array.ext_getElem?
  intro i
  rw [Array.getElem?_setIfInBounds]
  by_cases h : W.heap.size = i
  · subst h; simp
  · simp [h, Array.getElem?_push, show ¬ i = W.heap.size from fun e => h e.symm]
theorem run_insert {T k e : TypeId} (hT : Tryz.prog.underlying T = some (.map k e)) (hk : Tryz.prog.underlying k = some (.int .u8)) (W : World) (l : List (Int × Nat)) (s : Int) (v : Nat) (hs : l.lookup s = none) {b : Nat} (hbw : b = W.heap.size) :
    (Instr.mapUpdate T (.map (some b)) (.int .u8 s) (.func (.func v) #[] #[])).run Tryz.prog (mapW W l) = .ok () (mapW W (l ++ [(s, v)])) := by
  subst hbw
  obtain ⟨r, hf, hr⟩ := find_ents s l 0 0
  rw [hs] at hr
  have hr' : r = none := by cases r with
    | none => rfl
    | some x => cases hr
  subst hr'
  have hb := mapW_heap W l
  have hc := MapKept.run_checkKey (P := Tryz.prog) (w := mapW W l) (kt := k) (d := .int .u8) (k := .int .u8 s) hk rfl false 9999
  have hg := MapKept.run_getObj_map (P := Tryz.prog) hb
  have hfk := MapKept.run_findKey (P := Tryz.prog) (w := mapW W l) (kt := k) hk (l := (ents 0 l).toArray.toList) (by simpa using hf)
  have hso := MapKept.run_setObj_map (P := Tryz.prog) (.map ((ents 0 l).toArray.push { key := .int .u8 s, val := .func (.func v) #[] #[], born := l.length }) (l.length + 1)) hb
  have e : { mapW W l with heap := (mapW W l).heap.setIfInBounds W.heap.size (.map ((ents 0 l).toArray.push { key := .int .u8 s, val := .func (.func v) #[] #[], born := l.length }) (l.length + 1)) } = mapW W (l ++ [(s, v)]) := by
    rw [mapW, alloc_set, mapW, ents_snoc]
    simp
  rw [e] at hso
  simp only [Instr.mapUpdate, Sem.run_bind, run_underlying hT, Result.andThen_ok, hg, hc, hfk, hso]
theorem run_look {T k e : TypeId} (hT : Tryz.prog.underlying T = some (.map k e)) (hk : Tryz.prog.underlying k = some (.int .u8)) {W : World} (l : List (Int × Nat)) (s : Int) (v : Nat) (hl : l.lookup s = some v) {b : Nat} (hbw : b = W.heap.size) :
    (Instr.lookup T (.map (some b)) (.int .u8 s) false).run Tryz.prog (mapW W l) = .ok (.func (.func v) #[] #[]) (mapW W l) := by
  subst hbw
  obtain ⟨r, hf, hr⟩ := find_ents s l 0 0
  have hb := mapW_heap W l
  have hc := MapKept.run_checkKey (P := Tryz.prog) (w := mapW W l) (kt := k) (d := .int .u8) (k := .int .u8 s) hk rfl (ents 0 l).toArray.isEmpty 9999
  have hg := MapKept.run_getObj_map (P := Tryz.prog) hb
  have hfk := MapKept.run_findKey (P := Tryz.prog) (w := mapW W l) (kt := k) hk (l := (ents 0 l).toArray.toList) (by simpa using hf)
  simp only [Instr.lookup, Sem.run_bind, run_underlying hT, Result.andThen_ok, hg, hc, hfk, Sem.run_pure]
  rw [hl] at hr
  cases r with
  | none => cases hr
  | some x =>
    obtain ⟨i, y⟩ := x
    obtain rfl : y = .func (.func v) #[] #[] := Option.some.inj hr
    simp [Sem.run_bind, Result.andThen]
theorem exact_ex (n : Int) : exact n = pair (ex n).1 (ex n).2 := by
  unfold exact ex
  split <;> rfl
theorem neg_sub (y : Int) (hy : Fits y) (x : Int) (w : World) : Calls Tryz.prog 124 #[.int .i64 x, .int .i64 y] w fun e w' => e = .returned (pair (ex (0 - y)).1 (ex (0 - y)).2) ∧ w = w' := by
  have hA := fun w => c_Sub 0 y (by unfold Fits; omega) hy w
  rw [exact_ex] at hA
  generalize ex (0 - y) = q at hA ⊢
  go_enter Tryz.func124, Tryz.ntmps124
  go_wp2_with (go_at_call 125; refine (hA _).mono ?_; rintro e w' ⟨rfl, rfl⟩)
  go_ret2
  exact ⟨rfl, rfl⟩
set_option maxRecDepth 100000 in
set_option maxHeartbeats 4000000 in
theorem c_compute4 (x y : Int) (hx : Fits x) (hy : Fits y) (w : World) : Ret 114 #[.int .u8 4, .int .i64 x, .int .i64 y] w (enc (numO 4 x y)) := by
  have hA : ∀ W, Calls Tryz.prog 124 #[.int .i64 x, .int .i64 y] W fun e w' => e = .returned (pair (arith 4 x y).1 (arith 4 x y).2) ∧ W = w' := fun W => neg_sub y hy x W
  unfold numO
  generalize arith 4 x y = q at hA ⊢
  obtain ⟨n, e⟩ := q
  clear hx hy
  have hsz : (w.alloc (.cells #[.int .u8 0, .int .i64 0, .string ⟨#[]⟩, .int .i64 0] 34)).heap.size = w.heap.size + 1 := by simp
  have m0 := run_make 122 (w.alloc (.cells #[.int .u8 0, .int .i64 0, .string ⟨#[]⟩, .int .i64 0] 34))
  rw [hsz] at m0
  have m1 := run_insert Tryz.underlying122 Tryz.underlying22 (w.alloc (.cells #[.int .u8 0, .int .i64 0, .string ⟨#[]⟩, .int .i64 0] 34)) [] 4 124 rfl (b := w.heap.size + 1) hsz.symm
  simp only [List.nil_append, List.cons_append] at m1
  have m2 := run_insert Tryz.underlying122 Tryz.underlying22 (w.alloc (.cells #[.int .u8 0, .int .i64 0, .string ⟨#[]⟩, .int .i64 0] 34)) [(4, 124)] 5 126 rfl (b := w.heap.size + 1) hsz.symm
  simp only [List.nil_append, List.cons_append] at m2
  have m3 := run_insert Tryz.underlying122 Tryz.underlying22 (w.alloc (.cells #[.int .u8 0, .int .i64 0, .string ⟨#[]⟩, .int .i64 0] 34)) [(4, 124), (5, 126)] 6 125 rfl (b := w.heap.size + 1) hsz.symm
  simp only [List.nil_append, List.cons_append] at m3
  have m4 := run_insert Tryz.underlying122 Tryz.underlying22 (w.alloc (.cells #[.int .u8 0, .int .i64 0, .string ⟨#[]⟩, .int .i64 0] 34)) [(4, 124), (5, 126), (6, 125)] 7 127 rfl (b := w.heap.size + 1) hsz.symm
  simp only [List.nil_append, List.cons_append] at m4
  have m5 := run_insert Tryz.underlying122 Tryz.underlying22 (w.alloc (.cells #[.int .u8 0, .int .i64 0, .string ⟨#[]⟩, .int .i64 0] 34)) [(4, 124), (5, 126), (6, 125), (7, 127)] 8 128 rfl (b := w.heap.size + 1) hsz.symm
  simp only [List.nil_append, List.cons_append] at m5
  have m6 := run_insert Tryz.underlying122 Tryz.underlying22 (w.alloc (.cells #[.int .u8 0, .int .i64 0, .string ⟨#[]⟩, .int .i64 0] 34)) [(4, 124), (5, 126), (6, 125), (7, 127), (8, 128)] 9 129 rfl (b := w.heap.size + 1) hsz.symm
  simp only [List.nil_append, List.cons_append] at m6
  have ml := run_look Tryz.underlying122 Tryz.underlying22 (W := (w.alloc (.cells #[.int .u8 0, .int .i64 0, .string ⟨#[]⟩, .int .i64 0] 34))) [(4, 124), (5, 126), (6, 125), (7, 127), (8, 128), (9, 129)] 4 124 rfl (b := w.heap.size + 1) hsz.symm
  have BM := mapW_below (w.alloc (.cells #[.int .u8 0, .int .i64 0, .string ⟨#[]⟩, .int .i64 0] 34)) [(4, 124), (5, 126), (6, 125), (7, 127), (8, 128), (9, 129)]
  have X0 := (Box.new w nul).below BM
  change Box (mapW (w.alloc (.cells #[.int .u8 0, .int .i64 0, .string ⟨#[]⟩, .int .i64 0] 34)) [(4, 124), (5, 126), (6, 125), (7, 127), (8, 128), (9, 129)]) _ _ at X0
  have B0 : Below w.heap.size w (mapW (w.alloc (.cells #[.int .u8 0, .int .i64 0, .string ⟨#[]⟩, .int .i64 0] 34)) [(4, 124), (5, 126), (6, 125), (7, 127), (8, 128), (9, 129)]) := bel_trans (bel_alloc (Below.refl _ _) _) BM
  by_cases he : e = 0
  · subst he
    have hz : (if ((n, (0 : Int)).2 ≠ 0) then fl (n, (0 : Int)).2 else ⟨1, (n, (0 : Int)).1, ⟨#[]⟩, 0⟩ : Ot) = ⟨1, n, ⟨#[]⟩, 0⟩ := rfl
    rw [hz]
    go_enter Tryz.func114, Tryz.ntmps114
    go_upto_region 2 with fail
    clear m0 m1 m2 m3 m4 m5 m6 BM hsz hz
    generalize mapW (w.alloc (.cells #[.int .u8 0, .int .i64 0, .string ⟨#[]⟩, .int .i64 0] 34)) [(4, 124), (5, 126), (6, 125), (7, 127), (8, 128), (9, 129)] = wm at ml X0 B0 ⊢
    go_wp2_with (first | (go_at_call 124; refine (hA _).mono ?_; rintro e w' ⟨rfl, rfl⟩) | (go_at_call 112; refine (c_Int n _).mono ?_; rintro e w4 ⟨rfl, hb4⟩; obtain ⟨hx, d0, d1, d2, d3, e0, e1, e2, e3⟩ := X0.below hb4))
    exact bodyPost_ret (v := ov 1 n ⟨#[]⟩ 0) (by simp [results, Tryz.results114, go_sem, *]) rfl ⟨rfl, put4_below (o := ⟨1, n, ⟨#[]⟩, 0⟩) (bel_trans B0 hb4) (Nat.le_refl _)⟩
  · have hz : (if ((n, e).2 ≠ 0) then fl (n, e).2 else ⟨1, (n, e).1, ⟨#[]⟩, 0⟩ : Ot) = fl e := if_pos he
    rw [hz]
    have he2 : (e != 0) = true := by simpa using he
    go_enter Tryz.func114, Tryz.ntmps114
    go_upto_region 2 with fail
    clear m0 m1 m2 m3 m4 m5 m6 BM hsz hz
    generalize mapW (w.alloc (.cells #[.int .u8 0, .int .i64 0, .string ⟨#[]⟩, .int .i64 0] 34)) [(4, 124), (5, 126), (6, 125), (7, 127), (8, 128), (9, 129)] = wm at ml X0 B0 ⊢
    go_wp2_with (first | (go_at_call 124; refine (hA _).mono ?_; rintro e w' ⟨rfl, rfl⟩) | (go_at_call 50; refine (c_failing e _).mono ?_; rintro e w4 ⟨rfl, hb4⟩; obtain ⟨hx, d0, d1, d2, d3, e0, e1, e2, e3⟩ := X0.below hb4))
    exact bodyPost_ret (v := ov 0 0 ⟨#[]⟩ e) (by simp [results, Tryz.results114, go_sem, *]) rfl ⟨rfl, put4_below (o := fl e) (bel_trans B0 hb4) (Nat.le_refl _)⟩
set_option maxRecDepth 100000 in
set_option maxHeartbeats 4000000 in
theorem c_compute5 (x y : Int) (hx : Fits x) (hy : Fits y) (w : World) : Ret 114 #[.int .u8 5, .int .i64 x, .int .i64 y] w (enc (numO 5 x y)) := by
  have hA : ∀ W, Calls Tryz.prog 126 #[.int .i64 x, .int .i64 y] W fun e w' => e = .returned (pair (arith 5 x y).1 (arith 5 x y).2) ∧ W = w' := fun W => by rw [show arith 5 x y = ex (x + y) from rfl, ← exact_ex]; exact c_Add x y hx hy W
  unfold numO
  generalize arith 5 x y = q at hA ⊢
  obtain ⟨n, e⟩ := q
  clear hx hy
  have hsz : (w.alloc (.cells #[.int .u8 0, .int .i64 0, .string ⟨#[]⟩, .int .i64 0] 34)).heap.size = w.heap.size + 1 := by simp
  have m0 := run_make 122 (w.alloc (.cells #[.int .u8 0, .int .i64 0, .string ⟨#[]⟩, .int .i64 0] 34))
  rw [hsz] at m0
  have m1 := run_insert Tryz.underlying122 Tryz.underlying22 (w.alloc (.cells #[.int .u8 0, .int .i64 0, .string ⟨#[]⟩, .int .i64 0] 34)) [] 4 124 rfl (b := w.heap.size + 1) hsz.symm
  simp only [List.nil_append, List.cons_append] at m1
  have m2 := run_insert Tryz.underlying122 Tryz.underlying22 (w.alloc (.cells #[.int .u8 0, .int .i64 0, .string ⟨#[]⟩, .int .i64 0] 34)) [(4, 124)] 5 126 rfl (b := w.heap.size + 1) hsz.symm
  simp only [List.nil_append, List.cons_append] at m2
  have m3 := run_insert Tryz.underlying122 Tryz.underlying22 (w.alloc (.cells #[.int .u8 0, .int .i64 0, .string ⟨#[]⟩, .int .i64 0] 34)) [(4, 124), (5, 126)] 6 125 rfl (b := w.heap.size + 1) hsz.symm
  simp only [List.nil_append, List.cons_append] at m3
  have m4 := run_insert Tryz.underlying122 Tryz.underlying22 (w.alloc (.cells #[.int .u8 0, .int .i64 0, .string ⟨#[]⟩, .int .i64 0] 34)) [(4, 124), (5, 126), (6, 125)] 7 127 rfl (b := w.heap.size + 1) hsz.symm
  simp only [List.nil_append, List.cons_append] at m4
  have m5 := run_insert Tryz.underlying122 Tryz.underlying22 (w.alloc (.cells #[.int .u8 0, .int .i64 0, .string ⟨#[]⟩, .int .i64 0] 34)) [(4, 124), (5, 126), (6, 125), (7, 127)] 8 128 rfl (b := w.heap.size + 1) hsz.symm
  simp only [List.nil_append, List.cons_append] at m5
  have m6 := run_insert Tryz.underlying122 Tryz.underlying22 (w.alloc (.cells #[.int .u8 0, .int .i64 0, .string ⟨#[]⟩, .int .i64 0] 34)) [(4, 124), (5, 126), (6, 125), (7, 127), (8, 128)] 9 129 rfl (b := w.heap.size + 1) hsz.symm
  simp only [List.nil_append, List.cons_append] at m6
  have ml := run_look Tryz.underlying122 Tryz.underlying22 (W := (w.alloc (.cells #[.int .u8 0, .int .i64 0, .string ⟨#[]⟩, .int .i64 0] 34))) [(4, 124), (5, 126), (6, 125), (7, 127), (8, 128), (9, 129)] 5 126 rfl (b := w.heap.size + 1) hsz.symm
  have BM := mapW_below (w.alloc (.cells #[.int .u8 0, .int .i64 0, .string ⟨#[]⟩, .int .i64 0] 34)) [(4, 124), (5, 126), (6, 125), (7, 127), (8, 128), (9, 129)]
  have X0 := (Box.new w nul).below BM
  change Box (mapW (w.alloc (.cells #[.int .u8 0, .int .i64 0, .string ⟨#[]⟩, .int .i64 0] 34)) [(4, 124), (5, 126), (6, 125), (7, 127), (8, 128), (9, 129)]) _ _ at X0
  have B0 : Below w.heap.size w (mapW (w.alloc (.cells #[.int .u8 0, .int .i64 0, .string ⟨#[]⟩, .int .i64 0] 34)) [(4, 124), (5, 126), (6, 125), (7, 127), (8, 128), (9, 129)]) := bel_trans (bel_alloc (Below.refl _ _) _) BM
  by_cases he : e = 0
  · subst he
    have hz : (if ((n, (0 : Int)).2 ≠ 0) then fl (n, (0 : Int)).2 else ⟨1, (n, (0 : Int)).1, ⟨#[]⟩, 0⟩ : Ot) = ⟨1, n, ⟨#[]⟩, 0⟩ := rfl
    rw [hz]
    go_enter Tryz.func114, Tryz.ntmps114
    go_upto_region 2 with fail
    clear m0 m1 m2 m3 m4 m5 m6 BM hsz hz
    generalize mapW (w.alloc (.cells #[.int .u8 0, .int .i64 0, .string ⟨#[]⟩, .int .i64 0] 34)) [(4, 124), (5, 126), (6, 125), (7, 127), (8, 128), (9, 129)] = wm at ml X0 B0 ⊢
    go_wp2_with (first | (go_at_call 126; refine (hA _).mono ?_; rintro e w' ⟨rfl, rfl⟩) | (go_at_call 112; refine (c_Int n _).mono ?_; rintro e w4 ⟨rfl, hb4⟩; obtain ⟨hx, d0, d1, d2, d3, e0, e1, e2, e3⟩ := X0.below hb4))
    exact bodyPost_ret (v := ov 1 n ⟨#[]⟩ 0) (by simp [results, Tryz.results114, go_sem, *]) rfl ⟨rfl, put4_below (o := ⟨1, n, ⟨#[]⟩, 0⟩) (bel_trans B0 hb4) (Nat.le_refl _)⟩
  · have hz : (if ((n, e).2 ≠ 0) then fl (n, e).2 else ⟨1, (n, e).1, ⟨#[]⟩, 0⟩ : Ot) = fl e := if_pos he
    rw [hz]
    have he2 : (e != 0) = true := by simpa using he
    go_enter Tryz.func114, Tryz.ntmps114
    go_upto_region 2 with fail
    clear m0 m1 m2 m3 m4 m5 m6 BM hsz hz
    generalize mapW (w.alloc (.cells #[.int .u8 0, .int .i64 0, .string ⟨#[]⟩, .int .i64 0] 34)) [(4, 124), (5, 126), (6, 125), (7, 127), (8, 128), (9, 129)] = wm at ml X0 B0 ⊢
    go_wp2_with (first | (go_at_call 126; refine (hA _).mono ?_; rintro e w' ⟨rfl, rfl⟩) | (go_at_call 50; refine (c_failing e _).mono ?_; rintro e w4 ⟨rfl, hb4⟩; obtain ⟨hx, d0, d1, d2, d3, e0, e1, e2, e3⟩ := X0.below hb4))
    exact bodyPost_ret (v := ov 0 0 ⟨#[]⟩ e) (by simp [results, Tryz.results114, go_sem, *]) rfl ⟨rfl, put4_below (o := fl e) (bel_trans B0 hb4) (Nat.le_refl _)⟩
set_option maxRecDepth 100000 in
set_option maxHeartbeats 4000000 in
theorem c_compute6 (x y : Int) (hx : Fits x) (hy : Fits y) (w : World) : Ret 114 #[.int .u8 6, .int .i64 x, .int .i64 y] w (enc (numO 6 x y)) := by
  have hA : ∀ W, Calls Tryz.prog 125 #[.int .i64 x, .int .i64 y] W fun e w' => e = .returned (pair (arith 6 x y).1 (arith 6 x y).2) ∧ W = w' := fun W => by rw [show arith 6 x y = ex (x - y) from rfl, ← exact_ex]; exact c_Sub x y hx hy W
  unfold numO
  generalize arith 6 x y = q at hA ⊢
  obtain ⟨n, e⟩ := q
  clear hx hy
  have hsz : (w.alloc (.cells #[.int .u8 0, .int .i64 0, .string ⟨#[]⟩, .int .i64 0] 34)).heap.size = w.heap.size + 1 := by simp
  have m0 := run_make 122 (w.alloc (.cells #[.int .u8 0, .int .i64 0, .string ⟨#[]⟩, .int .i64 0] 34))
  rw [hsz] at m0
  have m1 := run_insert Tryz.underlying122 Tryz.underlying22 (w.alloc (.cells #[.int .u8 0, .int .i64 0, .string ⟨#[]⟩, .int .i64 0] 34)) [] 4 124 rfl (b := w.heap.size + 1) hsz.symm
  simp only [List.nil_append, List.cons_append] at m1
  have m2 := run_insert Tryz.underlying122 Tryz.underlying22 (w.alloc (.cells #[.int .u8 0, .int .i64 0, .string ⟨#[]⟩, .int .i64 0] 34)) [(4, 124)] 5 126 rfl (b := w.heap.size + 1) hsz.symm
  simp only [List.nil_append, List.cons_append] at m2
  have m3 := run_insert Tryz.underlying122 Tryz.underlying22 (w.alloc (.cells #[.int .u8 0, .int .i64 0, .string ⟨#[]⟩, .int .i64 0] 34)) [(4, 124), (5, 126)] 6 125 rfl (b := w.heap.size + 1) hsz.symm
  simp only [List.nil_append, List.cons_append] at m3
  have m4 := run_insert Tryz.underlying122 Tryz.underlying22 (w.alloc (.cells #[.int .u8 0, .int .i64 0, .string ⟨#[]⟩, .int .i64 0] 34)) [(4, 124), (5, 126), (6, 125)] 7 127 rfl (b := w.heap.size + 1) hsz.symm
  simp only [List.nil_append, List.cons_append] at m4
  have m5 := run_insert Tryz.underlying122 Tryz.underlying22 (w.alloc (.cells #[.int .u8 0, .int .i64 0, .string ⟨#[]⟩, .int .i64 0] 34)) [(4, 124), (5, 126), (6, 125), (7, 127)] 8 128 rfl (b := w.heap.size + 1) hsz.symm
  simp only [List.nil_append, List.cons_append] at m5
  have m6 := run_insert Tryz.underlying122 Tryz.underlying22 (w.alloc (.cells #[.int .u8 0, .int .i64 0, .string ⟨#[]⟩, .int .i64 0] 34)) [(4, 124), (5, 126), (6, 125), (7, 127), (8, 128)] 9 129 rfl (b := w.heap.size + 1) hsz.symm
  simp only [List.nil_append, List.cons_append] at m6
  have ml := run_look Tryz.underlying122 Tryz.underlying22 (W := (w.alloc (.cells #[.int .u8 0, .int .i64 0, .string ⟨#[]⟩, .int .i64 0] 34))) [(4, 124), (5, 126), (6, 125), (7, 127), (8, 128), (9, 129)] 6 125 rfl (b := w.heap.size + 1) hsz.symm
  have BM := mapW_below (w.alloc (.cells #[.int .u8 0, .int .i64 0, .string ⟨#[]⟩, .int .i64 0] 34)) [(4, 124), (5, 126), (6, 125), (7, 127), (8, 128), (9, 129)]
  have X0 := (Box.new w nul).below BM
  change Box (mapW (w.alloc (.cells #[.int .u8 0, .int .i64 0, .string ⟨#[]⟩, .int .i64 0] 34)) [(4, 124), (5, 126), (6, 125), (7, 127), (8, 128), (9, 129)]) _ _ at X0
  have B0 : Below w.heap.size w (mapW (w.alloc (.cells #[.int .u8 0, .int .i64 0, .string ⟨#[]⟩, .int .i64 0] 34)) [(4, 124), (5, 126), (6, 125), (7, 127), (8, 128), (9, 129)]) := bel_trans (bel_alloc (Below.refl _ _) _) BM
  by_cases he : e = 0
  · subst he
    have hz : (if ((n, (0 : Int)).2 ≠ 0) then fl (n, (0 : Int)).2 else ⟨1, (n, (0 : Int)).1, ⟨#[]⟩, 0⟩ : Ot) = ⟨1, n, ⟨#[]⟩, 0⟩ := rfl
    rw [hz]
    go_enter Tryz.func114, Tryz.ntmps114
    go_upto_region 2 with fail
    clear m0 m1 m2 m3 m4 m5 m6 BM hsz hz
    generalize mapW (w.alloc (.cells #[.int .u8 0, .int .i64 0, .string ⟨#[]⟩, .int .i64 0] 34)) [(4, 124), (5, 126), (6, 125), (7, 127), (8, 128), (9, 129)] = wm at ml X0 B0 ⊢
    go_wp2_with (first | (go_at_call 125; refine (hA _).mono ?_; rintro e w' ⟨rfl, rfl⟩) | (go_at_call 112; refine (c_Int n _).mono ?_; rintro e w4 ⟨rfl, hb4⟩; obtain ⟨hx, d0, d1, d2, d3, e0, e1, e2, e3⟩ := X0.below hb4))
    exact bodyPost_ret (v := ov 1 n ⟨#[]⟩ 0) (by simp [results, Tryz.results114, go_sem, *]) rfl ⟨rfl, put4_below (o := ⟨1, n, ⟨#[]⟩, 0⟩) (bel_trans B0 hb4) (Nat.le_refl _)⟩
  · have hz : (if ((n, e).2 ≠ 0) then fl (n, e).2 else ⟨1, (n, e).1, ⟨#[]⟩, 0⟩ : Ot) = fl e := if_pos he
    rw [hz]
    have he2 : (e != 0) = true := by simpa using he
    go_enter Tryz.func114, Tryz.ntmps114
    go_upto_region 2 with fail
    clear m0 m1 m2 m3 m4 m5 m6 BM hsz hz
    generalize mapW (w.alloc (.cells #[.int .u8 0, .int .i64 0, .string ⟨#[]⟩, .int .i64 0] 34)) [(4, 124), (5, 126), (6, 125), (7, 127), (8, 128), (9, 129)] = wm at ml X0 B0 ⊢
    go_wp2_with (first | (go_at_call 125; refine (hA _).mono ?_; rintro e w' ⟨rfl, rfl⟩) | (go_at_call 50; refine (c_failing e _).mono ?_; rintro e w4 ⟨rfl, hb4⟩; obtain ⟨hx, d0, d1, d2, d3, e0, e1, e2, e3⟩ := X0.below hb4))
    exact bodyPost_ret (v := ov 0 0 ⟨#[]⟩ e) (by simp [results, Tryz.results114, go_sem, *]) rfl ⟨rfl, put4_below (o := fl e) (bel_trans B0 hb4) (Nat.le_refl _)⟩
set_option maxRecDepth 100000 in
set_option maxHeartbeats 4000000 in
theorem c_compute7 (x y : Int) (hx : Fits x) (hy : Fits y) (w : World) : Ret 114 #[.int .u8 7, .int .i64 x, .int .i64 y] w (enc (numO 7 x y)) := by
  have hA : ∀ W, Calls Tryz.prog 127 #[.int .i64 x, .int .i64 y] W fun e w' => e = .returned (pair (arith 7 x y).1 (arith 7 x y).2) ∧ W = w' := fun W => by rw [show arith 7 x y = ex (x * y) from rfl, ← exact_ex]; exact c_Mul x y hx hy W
  unfold numO
  generalize arith 7 x y = q at hA ⊢
  obtain ⟨n, e⟩ := q
  clear hx hy
  have hsz : (w.alloc (.cells #[.int .u8 0, .int .i64 0, .string ⟨#[]⟩, .int .i64 0] 34)).heap.size = w.heap.size + 1 := by simp
  have m0 := run_make 122 (w.alloc (.cells #[.int .u8 0, .int .i64 0, .string ⟨#[]⟩, .int .i64 0] 34))
  rw [hsz] at m0
  have m1 := run_insert Tryz.underlying122 Tryz.underlying22 (w.alloc (.cells #[.int .u8 0, .int .i64 0, .string ⟨#[]⟩, .int .i64 0] 34)) [] 4 124 rfl (b := w.heap.size + 1) hsz.symm
  simp only [List.nil_append, List.cons_append] at m1
  have m2 := run_insert Tryz.underlying122 Tryz.underlying22 (w.alloc (.cells #[.int .u8 0, .int .i64 0, .string ⟨#[]⟩, .int .i64 0] 34)) [(4, 124)] 5 126 rfl (b := w.heap.size + 1) hsz.symm
  simp only [List.nil_append, List.cons_append] at m2
  have m3 := run_insert Tryz.underlying122 Tryz.underlying22 (w.alloc (.cells #[.int .u8 0, .int .i64 0, .string ⟨#[]⟩, .int .i64 0] 34)) [(4, 124), (5, 126)] 6 125 rfl (b := w.heap.size + 1) hsz.symm
  simp only [List.nil_append, List.cons_append] at m3
  have m4 := run_insert Tryz.underlying122 Tryz.underlying22 (w.alloc (.cells #[.int .u8 0, .int .i64 0, .string ⟨#[]⟩, .int .i64 0] 34)) [(4, 124), (5, 126), (6, 125)] 7 127 rfl (b := w.heap.size + 1) hsz.symm
  simp only [List.nil_append, List.cons_append] at m4
  have m5 := run_insert Tryz.underlying122 Tryz.underlying22 (w.alloc (.cells #[.int .u8 0, .int .i64 0, .string ⟨#[]⟩, .int .i64 0] 34)) [(4, 124), (5, 126), (6, 125), (7, 127)] 8 128 rfl (b := w.heap.size + 1) hsz.symm
  simp only [List.nil_append, List.cons_append] at m5
  have m6 := run_insert Tryz.underlying122 Tryz.underlying22 (w.alloc (.cells #[.int .u8 0, .int .i64 0, .string ⟨#[]⟩, .int .i64 0] 34)) [(4, 124), (5, 126), (6, 125), (7, 127), (8, 128)] 9 129 rfl (b := w.heap.size + 1) hsz.symm
  simp only [List.nil_append, List.cons_append] at m6
  have ml := run_look Tryz.underlying122 Tryz.underlying22 (W := (w.alloc (.cells #[.int .u8 0, .int .i64 0, .string ⟨#[]⟩, .int .i64 0] 34))) [(4, 124), (5, 126), (6, 125), (7, 127), (8, 128), (9, 129)] 7 127 rfl (b := w.heap.size + 1) hsz.symm
  have BM := mapW_below (w.alloc (.cells #[.int .u8 0, .int .i64 0, .string ⟨#[]⟩, .int .i64 0] 34)) [(4, 124), (5, 126), (6, 125), (7, 127), (8, 128), (9, 129)]
  have X0 := (Box.new w nul).below BM
  change Box (mapW (w.alloc (.cells #[.int .u8 0, .int .i64 0, .string ⟨#[]⟩, .int .i64 0] 34)) [(4, 124), (5, 126), (6, 125), (7, 127), (8, 128), (9, 129)]) _ _ at X0
  have B0 : Below w.heap.size w (mapW (w.alloc (.cells #[.int .u8 0, .int .i64 0, .string ⟨#[]⟩, .int .i64 0] 34)) [(4, 124), (5, 126), (6, 125), (7, 127), (8, 128), (9, 129)]) := bel_trans (bel_alloc (Below.refl _ _) _) BM
  by_cases he : e = 0
  · subst he
    have hz : (if ((n, (0 : Int)).2 ≠ 0) then fl (n, (0 : Int)).2 else ⟨1, (n, (0 : Int)).1, ⟨#[]⟩, 0⟩ : Ot) = ⟨1, n, ⟨#[]⟩, 0⟩ := rfl
    rw [hz]
    go_enter Tryz.func114, Tryz.ntmps114
    go_upto_region 2 with fail
    clear m0 m1 m2 m3 m4 m5 m6 BM hsz hz
    generalize mapW (w.alloc (.cells #[.int .u8 0, .int .i64 0, .string ⟨#[]⟩, .int .i64 0] 34)) [(4, 124), (5, 126), (6, 125), (7, 127), (8, 128), (9, 129)] = wm at ml X0 B0 ⊢
    go_wp2_with (first | (go_at_call 127; refine (hA _).mono ?_; rintro e w' ⟨rfl, rfl⟩) | (go_at_call 112; refine (c_Int n _).mono ?_; rintro e w4 ⟨rfl, hb4⟩; obtain ⟨hx, d0, d1, d2, d3, e0, e1, e2, e3⟩ := X0.below hb4))
    exact bodyPost_ret (v := ov 1 n ⟨#[]⟩ 0) (by simp [results, Tryz.results114, go_sem, *]) rfl ⟨rfl, put4_below (o := ⟨1, n, ⟨#[]⟩, 0⟩) (bel_trans B0 hb4) (Nat.le_refl _)⟩
  · have hz : (if ((n, e).2 ≠ 0) then fl (n, e).2 else ⟨1, (n, e).1, ⟨#[]⟩, 0⟩ : Ot) = fl e := if_pos he
    rw [hz]
    have he2 : (e != 0) = true := by simpa using he
    go_enter Tryz.func114, Tryz.ntmps114
    go_upto_region 2 with fail
    clear m0 m1 m2 m3 m4 m5 m6 BM hsz hz
    generalize mapW (w.alloc (.cells #[.int .u8 0, .int .i64 0, .string ⟨#[]⟩, .int .i64 0] 34)) [(4, 124), (5, 126), (6, 125), (7, 127), (8, 128), (9, 129)] = wm at ml X0 B0 ⊢
    go_wp2_with (first | (go_at_call 127; refine (hA _).mono ?_; rintro e w' ⟨rfl, rfl⟩) | (go_at_call 50; refine (c_failing e _).mono ?_; rintro e w4 ⟨rfl, hb4⟩; obtain ⟨hx, d0, d1, d2, d3, e0, e1, e2, e3⟩ := X0.below hb4))
    exact bodyPost_ret (v := ov 0 0 ⟨#[]⟩ e) (by simp [results, Tryz.results114, go_sem, *]) rfl ⟨rfl, put4_below (o := fl e) (bel_trans B0 hb4) (Nat.le_refl _)⟩
set_option maxRecDepth 100000 in
set_option maxHeartbeats 4000000 in
theorem c_compute8 (x y : Int) (hx : Fits x) (hy : Fits y) (w : World) : Ret 114 #[.int .u8 8, .int .i64 x, .int .i64 y] w (enc (numO 8 x y)) := by
  have hA : ∀ W, Calls Tryz.prog 128 #[.int .i64 x, .int .i64 y] W fun e w' => e = .returned (pair (arith 8 x y).1 (arith 8 x y).2) ∧ W = w' := fun W => by rw [show (pair (arith 8 x y).1 (arith 8 x y).2) = divV x y by (unfold divV; rw [exact_ex, show arith 8 x y = (if y = 0 then (0, 3) else ex (x.tdiv y)) from rfl]; split <;> rfl)]; exact c_Div x y hx hy W
  unfold numO
  generalize arith 8 x y = q at hA ⊢
  obtain ⟨n, e⟩ := q
  clear hx hy
  have hsz : (w.alloc (.cells #[.int .u8 0, .int .i64 0, .string ⟨#[]⟩, .int .i64 0] 34)).heap.size = w.heap.size + 1 := by simp
  have m0 := run_make 122 (w.alloc (.cells #[.int .u8 0, .int .i64 0, .string ⟨#[]⟩, .int .i64 0] 34))
  rw [hsz] at m0
  have m1 := run_insert Tryz.underlying122 Tryz.underlying22 (w.alloc (.cells #[.int .u8 0, .int .i64 0, .string ⟨#[]⟩, .int .i64 0] 34)) [] 4 124 rfl (b := w.heap.size + 1) hsz.symm
  simp only [List.nil_append, List.cons_append] at m1
  have m2 := run_insert Tryz.underlying122 Tryz.underlying22 (w.alloc (.cells #[.int .u8 0, .int .i64 0, .string ⟨#[]⟩, .int .i64 0] 34)) [(4, 124)] 5 126 rfl (b := w.heap.size + 1) hsz.symm
  simp only [List.nil_append, List.cons_append] at m2
  have m3 := run_insert Tryz.underlying122 Tryz.underlying22 (w.alloc (.cells #[.int .u8 0, .int .i64 0, .string ⟨#[]⟩, .int .i64 0] 34)) [(4, 124), (5, 126)] 6 125 rfl (b := w.heap.size + 1) hsz.symm
  simp only [List.nil_append, List.cons_append] at m3
  have m4 := run_insert Tryz.underlying122 Tryz.underlying22 (w.alloc (.cells #[.int .u8 0, .int .i64 0, .string ⟨#[]⟩, .int .i64 0] 34)) [(4, 124), (5, 126), (6, 125)] 7 127 rfl (b := w.heap.size + 1) hsz.symm
  simp only [List.nil_append, List.cons_append] at m4
  have m5 := run_insert Tryz.underlying122 Tryz.underlying22 (w.alloc (.cells #[.int .u8 0, .int .i64 0, .string ⟨#[]⟩, .int .i64 0] 34)) [(4, 124), (5, 126), (6, 125), (7, 127)] 8 128 rfl (b := w.heap.size + 1) hsz.symm
  simp only [List.nil_append, List.cons_append] at m5
  have m6 := run_insert Tryz.underlying122 Tryz.underlying22 (w.alloc (.cells #[.int .u8 0, .int .i64 0, .string ⟨#[]⟩, .int .i64 0] 34)) [(4, 124), (5, 126), (6, 125), (7, 127), (8, 128)] 9 129 rfl (b := w.heap.size + 1) hsz.symm
  simp only [List.nil_append, List.cons_append] at m6
  have ml := run_look Tryz.underlying122 Tryz.underlying22 (W := (w.alloc (.cells #[.int .u8 0, .int .i64 0, .string ⟨#[]⟩, .int .i64 0] 34))) [(4, 124), (5, 126), (6, 125), (7, 127), (8, 128), (9, 129)] 8 128 rfl (b := w.heap.size + 1) hsz.symm
  have BM := mapW_below (w.alloc (.cells #[.int .u8 0, .int .i64 0, .string ⟨#[]⟩, .int .i64 0] 34)) [(4, 124), (5, 126), (6, 125), (7, 127), (8, 128), (9, 129)]
  have X0 := (Box.new w nul).below BM
  change Box (mapW (w.alloc (.cells #[.int .u8 0, .int .i64 0, .string ⟨#[]⟩, .int .i64 0] 34)) [(4, 124), (5, 126), (6, 125), (7, 127), (8, 128), (9, 129)]) _ _ at X0
  have B0 : Below w.heap.size w (mapW (w.alloc (.cells #[.int .u8 0, .int .i64 0, .string ⟨#[]⟩, .int .i64 0] 34)) [(4, 124), (5, 126), (6, 125), (7, 127), (8, 128), (9, 129)]) := bel_trans (bel_alloc (Below.refl _ _) _) BM
  by_cases he : e = 0
  · subst he
    have hz : (if ((n, (0 : Int)).2 ≠ 0) then fl (n, (0 : Int)).2 else ⟨1, (n, (0 : Int)).1, ⟨#[]⟩, 0⟩ : Ot) = ⟨1, n, ⟨#[]⟩, 0⟩ := rfl
    rw [hz]
    go_enter Tryz.func114, Tryz.ntmps114
    go_upto_region 2 with fail
    clear m0 m1 m2 m3 m4 m5 m6 BM hsz hz
    generalize mapW (w.alloc (.cells #[.int .u8 0, .int .i64 0, .string ⟨#[]⟩, .int .i64 0] 34)) [(4, 124), (5, 126), (6, 125), (7, 127), (8, 128), (9, 129)] = wm at ml X0 B0 ⊢
    go_wp2_with (first | (go_at_call 128; refine (hA _).mono ?_; rintro e w' ⟨rfl, rfl⟩) | (go_at_call 112; refine (c_Int n _).mono ?_; rintro e w4 ⟨rfl, hb4⟩; obtain ⟨hx, d0, d1, d2, d3, e0, e1, e2, e3⟩ := X0.below hb4))
    exact bodyPost_ret (v := ov 1 n ⟨#[]⟩ 0) (by simp [results, Tryz.results114, go_sem, *]) rfl ⟨rfl, put4_below (o := ⟨1, n, ⟨#[]⟩, 0⟩) (bel_trans B0 hb4) (Nat.le_refl _)⟩
  · have hz : (if ((n, e).2 ≠ 0) then fl (n, e).2 else ⟨1, (n, e).1, ⟨#[]⟩, 0⟩ : Ot) = fl e := if_pos he
    rw [hz]
    have he2 : (e != 0) = true := by simpa using he
    go_enter Tryz.func114, Tryz.ntmps114
    go_upto_region 2 with fail
    clear m0 m1 m2 m3 m4 m5 m6 BM hsz hz
    generalize mapW (w.alloc (.cells #[.int .u8 0, .int .i64 0, .string ⟨#[]⟩, .int .i64 0] 34)) [(4, 124), (5, 126), (6, 125), (7, 127), (8, 128), (9, 129)] = wm at ml X0 B0 ⊢
    go_wp2_with (first | (go_at_call 128; refine (hA _).mono ?_; rintro e w' ⟨rfl, rfl⟩) | (go_at_call 50; refine (c_failing e _).mono ?_; rintro e w4 ⟨rfl, hb4⟩; obtain ⟨hx, d0, d1, d2, d3, e0, e1, e2, e3⟩ := X0.below hb4))
    exact bodyPost_ret (v := ov 0 0 ⟨#[]⟩ e) (by simp [results, Tryz.results114, go_sem, *]) rfl ⟨rfl, put4_below (o := fl e) (bel_trans B0 hb4) (Nat.le_refl _)⟩
set_option maxRecDepth 100000 in
set_option maxHeartbeats 4000000 in
theorem c_compute9 (x y : Int) (hx : Fits x) (hy : Fits y) (w : World) : Ret 114 #[.int .u8 9, .int .i64 x, .int .i64 y] w (enc (numO 9 x y)) := by
  have hA : ∀ W, Calls Tryz.prog 129 #[.int .i64 x, .int .i64 y] W fun e w' => e = .returned (pair (arith 9 x y).1 (arith 9 x y).2) ∧ W = w' := fun W => by rw [show (pair (arith 9 x y).1 (arith 9 x y).2) = modV x y by (unfold modV; rw [show arith 9 x y = (if y = 0 then (0, 3) else (x.tmod y, 0)) from rfl]; split <;> rfl)]; exact c_Mod x y hx W
  unfold numO
  generalize arith 9 x y = q at hA ⊢
  obtain ⟨n, e⟩ := q
  clear hx hy
  have hsz : (w.alloc (.cells #[.int .u8 0, .int .i64 0, .string ⟨#[]⟩, .int .i64 0] 34)).heap.size = w.heap.size + 1 := by simp
  have m0 := run_make 122 (w.alloc (.cells #[.int .u8 0, .int .i64 0, .string ⟨#[]⟩, .int .i64 0] 34))
  rw [hsz] at m0
  have m1 := run_insert Tryz.underlying122 Tryz.underlying22 (w.alloc (.cells #[.int .u8 0, .int .i64 0, .string ⟨#[]⟩, .int .i64 0] 34)) [] 4 124 rfl (b := w.heap.size + 1) hsz.symm
  simp only [List.nil_append, List.cons_append] at m1
  have m2 := run_insert Tryz.underlying122 Tryz.underlying22 (w.alloc (.cells #[.int .u8 0, .int .i64 0, .string ⟨#[]⟩, .int .i64 0] 34)) [(4, 124)] 5 126 rfl (b := w.heap.size + 1) hsz.symm
  simp only [List.nil_append, List.cons_append] at m2
  have m3 := run_insert Tryz.underlying122 Tryz.underlying22 (w.alloc (.cells #[.int .u8 0, .int .i64 0, .string ⟨#[]⟩, .int .i64 0] 34)) [(4, 124), (5, 126)] 6 125 rfl (b := w.heap.size + 1) hsz.symm
  simp only [List.nil_append, List.cons_append] at m3
  have m4 := run_insert Tryz.underlying122 Tryz.underlying22 (w.alloc (.cells #[.int .u8 0, .int .i64 0, .string ⟨#[]⟩, .int .i64 0] 34)) [(4, 124), (5, 126), (6, 125)] 7 127 rfl (b := w.heap.size + 1) hsz.symm
  simp only [List.nil_append, List.cons_append] at m4
  have m5 := run_insert Tryz.underlying122 Tryz.underlying22 (w.alloc (.cells #[.int .u8 0, .int .i64 0, .string ⟨#[]⟩, .int .i64 0] 34)) [(4, 124), (5, 126), (6, 125), (7, 127)] 8 128 rfl (b := w.heap.size + 1) hsz.symm
  simp only [List.nil_append, List.cons_append] at m5
  have m6 := run_insert Tryz.underlying122 Tryz.underlying22 (w.alloc (.cells #[.int .u8 0, .int .i64 0, .string ⟨#[]⟩, .int .i64 0] 34)) [(4, 124), (5, 126), (6, 125), (7, 127), (8, 128)] 9 129 rfl (b := w.heap.size + 1) hsz.symm
  simp only [List.nil_append, List.cons_append] at m6
  have ml := run_look Tryz.underlying122 Tryz.underlying22 (W := (w.alloc (.cells #[.int .u8 0, .int .i64 0, .string ⟨#[]⟩, .int .i64 0] 34))) [(4, 124), (5, 126), (6, 125), (7, 127), (8, 128), (9, 129)] 9 129 rfl (b := w.heap.size + 1) hsz.symm
  have BM := mapW_below (w.alloc (.cells #[.int .u8 0, .int .i64 0, .string ⟨#[]⟩, .int .i64 0] 34)) [(4, 124), (5, 126), (6, 125), (7, 127), (8, 128), (9, 129)]
  have X0 := (Box.new w nul).below BM
  change Box (mapW (w.alloc (.cells #[.int .u8 0, .int .i64 0, .string ⟨#[]⟩, .int .i64 0] 34)) [(4, 124), (5, 126), (6, 125), (7, 127), (8, 128), (9, 129)]) _ _ at X0
  have B0 : Below w.heap.size w (mapW (w.alloc (.cells #[.int .u8 0, .int .i64 0, .string ⟨#[]⟩, .int .i64 0] 34)) [(4, 124), (5, 126), (6, 125), (7, 127), (8, 128), (9, 129)]) := bel_trans (bel_alloc (Below.refl _ _) _) BM
  by_cases he : e = 0
  · subst he
    have hz : (if ((n, (0 : Int)).2 ≠ 0) then fl (n, (0 : Int)).2 else ⟨1, (n, (0 : Int)).1, ⟨#[]⟩, 0⟩ : Ot) = ⟨1, n, ⟨#[]⟩, 0⟩ := rfl
    rw [hz]
    go_enter Tryz.func114, Tryz.ntmps114
    go_upto_region 2 with fail
    clear m0 m1 m2 m3 m4 m5 m6 BM hsz hz
    generalize mapW (w.alloc (.cells #[.int .u8 0, .int .i64 0, .string ⟨#[]⟩, .int .i64 0] 34)) [(4, 124), (5, 126), (6, 125), (7, 127), (8, 128), (9, 129)] = wm at ml X0 B0 ⊢
    go_wp2_with (first | (go_at_call 129; refine (hA _).mono ?_; rintro e w' ⟨rfl, rfl⟩) | (go_at_call 112; refine (c_Int n _).mono ?_; rintro e w4 ⟨rfl, hb4⟩; obtain ⟨hx, d0, d1, d2, d3, e0, e1, e2, e3⟩ := X0.below hb4))
    exact bodyPost_ret (v := ov 1 n ⟨#[]⟩ 0) (by simp [results, Tryz.results114, go_sem, *]) rfl ⟨rfl, put4_below (o := ⟨1, n, ⟨#[]⟩, 0⟩) (bel_trans B0 hb4) (Nat.le_refl _)⟩
  · have hz : (if ((n, e).2 ≠ 0) then fl (n, e).2 else ⟨1, (n, e).1, ⟨#[]⟩, 0⟩ : Ot) = fl e := if_pos he
    rw [hz]
    have he2 : (e != 0) = true := by simpa using he
    go_enter Tryz.func114, Tryz.ntmps114
    go_upto_region 2 with fail
    clear m0 m1 m2 m3 m4 m5 m6 BM hsz hz
    generalize mapW (w.alloc (.cells #[.int .u8 0, .int .i64 0, .string ⟨#[]⟩, .int .i64 0] 34)) [(4, 124), (5, 126), (6, 125), (7, 127), (8, 128), (9, 129)] = wm at ml X0 B0 ⊢
    go_wp2_with (first | (go_at_call 129; refine (hA _).mono ?_; rintro e w' ⟨rfl, rfl⟩) | (go_at_call 50; refine (c_failing e _).mono ?_; rintro e w4 ⟨rfl, hb4⟩; obtain ⟨hx, d0, d1, d2, d3, e0, e1, e2, e3⟩ := X0.below hb4))
    exact bodyPost_ret (v := ov 0 0 ⟨#[]⟩ e) (by simp [results, Tryz.results114, go_sem, *]) rfl ⟨rfl, put4_below (o := fl e) (bel_trans B0 hb4) (Nat.le_refl _)⟩
end Go.Proofs.YtefelelhgepkeaaGreatDoor.U
