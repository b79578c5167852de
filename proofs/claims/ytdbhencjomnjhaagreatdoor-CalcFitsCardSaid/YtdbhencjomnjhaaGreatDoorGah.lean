/- Arithmetic: a map of functions; what each comes to. -/
import Derived.Test.YtdbhencjomnjhaaGreatDoorGag
import Derived.MapKept
import Derived.Carry
import Derived.Test.YtdbhencjomnjhaaGreatDoorGaa
import Derived.Deep.DeepCutAuto
import Derived.Test.YtdbhencjomnjhaaGreatDoorGab
namespace Go.Proofs.YtdbhencjomnjhaaGreatDoor.U
open Go.ChangeShapes Go.WideShapes Go.ChangeAt Go.RowKit Go.Proofs.YtdbhencjomnjhaaGreatDoor.V Go.Proofs.YtdbhencjomnjhaaGreatDoor.K Go.Proofs.YtdbhencjomnjhaaGreatDoor.T
/-- The entries of a map of operators to functions. -/
def ents : Nat → List (Int × Nat) → List MapEntry
  | _, [] => []
  | i, x :: l => { key := .int .u8 x.1, val := .func (.func x.2) #[] #[], born := i } :: ents (i + 1) l
theorem ents_snoc (x : Int × Nat) : ∀ (l : List (Int × Nat)) (i : Nat), ents i (l ++ [x]) = ents i l ++ [{ key := .int .u8 x.1, val := .func (.func x.2) #[] #[], born := i + l.length }]
  | [], i => rfl
  | y :: l, i => by
    rw [List.cons_append, ents, ents_snoc x l (i + 1), ents, List.cons_append, List.length_cons]
    congr 4
    omega
theorem find_ents (s : Int) : ∀ (l : List (Int × Nat)) (i j : Nat), ∃ r, Instr.findNow (.int .u8) (.int .u8 s) (ents i l) j = some r ∧ r.map (·.2) = (l.lookup s).map fun v => Value.func (.func v) #[] #[]
  | [], _, _ => ⟨none, rfl, rfl⟩
  | x :: l, i, j => by
    obtain ⟨r, h1, h2⟩ := find_ents s l (i + 1) (j + 1)
    rw [ents, Instr.findNow, List.lookup]
    simp only [Instr.sameNow]
    cases s == x.1
    · exact ⟨r, h1, h2⟩
    · exact ⟨_, rfl, rfl⟩
/-- A world with a new map. -/
def mapW (W : World) (l : List (Int × Nat)) : World := W.alloc (.map (ents 0 l).toArray l.length)
theorem mapW_heap (W : World) (l : List (Int × Nat)) : (mapW W l).heap[W.heap.size]? = some (.map (ents 0 l).toArray l.length) := heap_alloc_new _ _
theorem mapW_below (W : World) (l : List (Int × Nat)) : Below W.heap.size W (mapW W l) := (Below.refl _ W).alloc (Nat.le_refl _) _
theorem run_make (T : TypeId) (W : World) : (Instr.makeMap T none).run Tryz.prog W = .ok (.map (some W.heap.size)) (mapW W []) := run_makeMap T W
theorem alloc_set (W : World) (o o' : Obj) : { W.alloc o with heap := (W.alloc o).heap.setIfInBounds W.heap.size o' } = W.alloc o' := by
  simp only [World.alloc]
  congr 1
  apply Array.ext_getElem?
  intro i
  rw [Array.getElem?_setIfInBounds]
  by_cases h : W.heap.size = i
  · subst h; simp
  · simp [h, Array.getElem?_push, show ¬ i = W.heap.size from fun e => h e.symm]
theorem run_insert {T k e : TypeId} (hT : Tryz.prog.underlying T = some (.map k e)) (hk : Tryz.prog.underlying k = some (.int .u8)) (W : World) (l : List (Int × Nat)) (s : Int) (v : Nat) (hs : l.lookup s = none) {b : Nat} (hbw : b = W.heap.size) :
    (Instr.mapUpdate T (.map (some b)) (.int .u8 s) (.func (.func v) #[] #[])).run Tryz.prog (mapW W l) = .ok () (mapW W (l ++ [(s, v)])) := by
  subst hbw
  obtain ⟨r, hf, hr⟩ := find_ents s l 0 0
  rw [hs] at hr
  have hr' : r = none := by cases r with
    | none => rfl
    | some x => cases hr
  subst hr'
  have hb := mapW_heap W l
  have hc := MapKept.run_checkKey (P := Tryz.prog) (w := mapW W l) (kt := k) (d := .int .u8) (k := .int .u8 s) hk rfl false 9999
  have hg := MapKept.run_getObj_map (P := Tryz.prog) hb
  have hfk := MapKept.run_findKey (P := Tryz.prog) (w := mapW W l) (kt := k) hk (l := (ents 0 l).toArray.toList) (by simpa using hf)
  have hso := MapKept.run_setObj_map (P := Tryz.prog) (.map ((ents 0 l).toArray.push { key := .int .u8 s, val := .func (.func v) #[] #[], born := l.length }) (l.length + 1)) hb
  have e : { mapW W l with heap := (mapW W l).heap.setIfInBounds W.heap.size (.map ((ents 0 l).toArray.push { key := .int .u8 s, val := .func (.func v) #[] #[], born := l.length }) (l.length + 1)) } = mapW W (l ++ [(s, v)]) := by
    rw [mapW, alloc_set, mapW, ents_snoc]
    simp
  rw [e] at hso
  simp only [Instr.mapUpdate, Sem.run_bind, run_underlying hT, Result.andThen_ok, hg, hc, hfk, hso]
theorem run_look {T k e : TypeId} (hT : Tryz.prog.underlying T = some (.map k e)) (hk : Tryz.prog.underlying k = some (.int .u8)) {W : World} (l : List (Int × Nat)) (s : Int) (v : Nat) (hl : l.lookup s = some v) {b : Nat} (hbw : b = W.heap.size) :
    (Instr.lookup T (.map (some b)) (.int .u8 s) false).run Tryz.prog (mapW W l) = .ok (.func (.func v) #[] #[]) (mapW W l) := by
  subst hbw
  obtain ⟨r, hf, hr⟩ := find_ents s l 0 0
  have hb := mapW_heap W l
  have hc := MapKept.run_checkKey (P := Tryz.prog) (w := mapW W l) (kt := k) (d := .int .u8) (k := .int .u8 s) hk rfl (ents 0 l).toArray.isEmpty 9999
  have hg := MapKept.run_getObj_map (P := Tryz.prog) hb
  have hfk := MapKept.run_findKey (P := Tryz.prog) (w := mapW W l) (kt := k) hk (l := (ents 0 l).toArray.toList) (by simpa using hf)
  simp only [Instr.lookup, Sem.run_bind, run_underlying hT, Result.andThen_ok, hg, hc, hfk, Sem.run_pure]
  rw [hl] at hr
  cases r with
  | none => cases hr
  | some x =>
    obtain ⟨i, y⟩ := x
    obtain rfl : y = .func (.func v) #[] #[] := Option.some.inj hr
    simp [Sem.run_bind, Result.andThen]
theorem exact_ex (n : Int) : exact n = pair (ex n).1 (ex n).2 := by
  unfold exact ex
  split <;> rfl
theorem neg_sub (y : Int) (hy : Fits y) (x : Int) (w : World) : Calls Tryz.prog 72 #[.int .i64 x, .int .i64 y] w fun e w' => e = .returned (pair (ex (0 - y)).1 (ex (0 - y)).2) ∧ w = w' := by
  have hA := fun w => c_Sub 0 y (by unfold Fits; omega) hy w
  rw [exact_ex] at hA
  generalize ex (0 - y) = q at hA ⊢
  go_enter Tryz.func72, Tryz.ntmps72
  go_wp2_with (go_at_call 73; refine (hA _).mono ?_; rintro e w' ⟨rfl, rfl⟩)
  go_ret2
  exact ⟨rfl, rfl⟩
set_option maxRecDepth 100000 in
set_option maxHeartbeats 4000000 in
theorem c_compute4 (x y : Int) (hx : Fits x) (hy : Fits y) (w : World) : Ret 61 #[.int .u8 4, .int .i64 x, .int .i64 y] w (enc (numO 4 x y)) := by
  have hA : ∀ W, Calls Tryz.prog 72 #[.int .i64 x, .int .i64 y] W fun e w' => e = .returned (pair (arith 4 x y).1 (arith 4 x y).2) ∧ W = w' := fun W => neg_sub y hy x W
  unfold numO
  generalize arith 4 x y = q at hA ⊢
  obtain ⟨n, e⟩ := q
  clear hx hy
  have hsz : (w.alloc (.cells #[.int .u8 0, .int .i64 0, .string ⟨#[]⟩, .int .i64 0] 31)).heap.size = w.heap.size + 1 := by simp
  have m0 := run_make 104 (w.alloc (.cells #[.int .u8 0, .int .i64 0, .string ⟨#[]⟩, .int .i64 0] 31))
  rw [hsz] at m0
  have m1 := run_insert Tryz.underlying104 Tryz.underlying22 (w.alloc (.cells #[.int .u8 0, .int .i64 0, .string ⟨#[]⟩, .int .i64 0] 31)) [] 4 72 rfl (b := w.heap.size + 1) hsz.symm
  simp only [List.nil_append, List.cons_append] at m1
  have m2 := run_insert Tryz.underlying104 Tryz.underlying22 (w.alloc (.cells #[.int .u8 0, .int .i64 0, .string ⟨#[]⟩, .int .i64 0] 31)) [(4, 72)] 5 74 rfl (b := w.heap.size + 1) hsz.symm
  simp only [List.nil_append, List.cons_append] at m2
  have m3 := run_insert Tryz.underlying104 Tryz.underlying22 (w.alloc (.cells #[.int .u8 0, .int .i64 0, .string ⟨#[]⟩, .int .i64 0] 31)) [(4, 72), (5, 74)] 6 73 rfl (b := w.heap.size + 1) hsz.symm
  simp only [List.nil_append, List.cons_append] at m3
  have m4 := run_insert Tryz.underlying104 Tryz.underlying22 (w.alloc (.cells #[.int .u8 0, .int .i64 0, .string ⟨#[]⟩, .int .i64 0] 31)) [(4, 72), (5, 74), (6, 73)] 7 75 rfl (b := w.heap.size + 1) hsz.symm
  simp only [List.nil_append, List.cons_append] at m4
  have m5 := run_insert Tryz.underlying104 Tryz.underlying22 (w.alloc (.cells #[.int .u8 0, .int .i64 0, .string ⟨#[]⟩, .int .i64 0] 31)) [(4, 72), (5, 74), (6, 73), (7, 75)] 8 76 rfl (b := w.heap.size + 1) hsz.symm
  simp only [List.nil_append, List.cons_append] at m5
  have m6 := run_insert Tryz.underlying104 Tryz.underlying22 (w.alloc (.cells #[.int .u8 0, .int .i64 0, .string ⟨#[]⟩, .int .i64 0] 31)) [(4, 72), (5, 74), (6, 73), (7, 75), (8, 76)] 9 77 rfl (b := w.heap.size + 1) hsz.symm
  simp only [List.nil_append, List.cons_append] at m6
  have ml := run_look Tryz.underlying104 Tryz.underlying22 (W := (w.alloc (.cells #[.int .u8 0, .int .i64 0, .string ⟨#[]⟩, .int .i64 0] 31))) [(4, 72), (5, 74), (6, 73), (7, 75), (8, 76), (9, 77)] 4 72 rfl (b := w.heap.size + 1) hsz.symm
  have BM := mapW_below (w.alloc (.cells #[.int .u8 0, .int .i64 0, .string ⟨#[]⟩, .int .i64 0] 31)) [(4, 72), (5, 74), (6, 73), (7, 75), (8, 76), (9, 77)]
  have X0 := (Box.new w nul).below BM
  change Box (mapW (w.alloc (.cells #[.int .u8 0, .int .i64 0, .string ⟨#[]⟩, .int .i64 0] 31)) [(4, 72), (5, 74), (6, 73), (7, 75), (8, 76), (9, 77)]) _ _ at X0
  have B0 : Below w.heap.size w (mapW (w.alloc (.cells #[.int .u8 0, .int .i64 0, .string ⟨#[]⟩, .int .i64 0] 31)) [(4, 72), (5, 74), (6, 73), (7, 75), (8, 76), (9, 77)]) := bel_trans (bel_alloc (Below.refl _ _) _) BM
  by_cases he : e = 0
  · subst he
    have hz : (if ((n, (0 : Int)).2 ≠ 0) then fl (n, (0 : Int)).2 else ⟨1, (n, (0 : Int)).1, ⟨#[]⟩, 0⟩ : Ot) = ⟨1, n, ⟨#[]⟩, 0⟩ := rfl
    rw [hz]
    go_enter Tryz.func61, Tryz.ntmps61
    go_upto_region 2 with fail
    clear m0 m1 m2 m3 m4 m5 m6 BM hsz hz
    generalize mapW (w.alloc (.cells #[.int .u8 0, .int .i64 0, .string ⟨#[]⟩, .int .i64 0] 31)) [(4, 72), (5, 74), (6, 73), (7, 75), (8, 76), (9, 77)] = wm at ml X0 B0 ⊢
    go_wp2_with (first | (go_at_call 72; refine (hA _).mono ?_; rintro e w' ⟨rfl, rfl⟩) | (go_at_call 59; refine (c_Int n _).mono ?_; rintro e w4 ⟨rfl, hb4⟩; obtain ⟨hx, d0, d1, d2, d3, e0, e1, e2, e3⟩ := X0.below hb4))
    exact bodyPost_ret (v := ov 1 n ⟨#[]⟩ 0) (by simp [results, Tryz.results61, go_sem, *]) rfl ⟨rfl, put4_below (o := ⟨1, n, ⟨#[]⟩, 0⟩) (bel_trans B0 hb4) (Nat.le_refl _)⟩
  · have hz : (if ((n, e).2 ≠ 0) then fl (n, e).2 else ⟨1, (n, e).1, ⟨#[]⟩, 0⟩ : Ot) = fl e := if_pos he
    rw [hz]
    have he2 : (e != 0) = true := by simpa using he
    go_enter Tryz.func61, Tryz.ntmps61
    go_upto_region 2 with fail
    clear m0 m1 m2 m3 m4 m5 m6 BM hsz hz
    generalize mapW (w.alloc (.cells #[.int .u8 0, .int .i64 0, .string ⟨#[]⟩, .int .i64 0] 31)) [(4, 72), (5, 74), (6, 73), (7, 75), (8, 76), (9, 77)] = wm at ml X0 B0 ⊢
    go_wp2_with (first | (go_at_call 72; refine (hA _).mono ?_; rintro e w' ⟨rfl, rfl⟩) | (go_at_call 13; refine (c_failing e _).mono ?_; rintro e w4 ⟨rfl, hb4⟩; obtain ⟨hx, d0, d1, d2, d3, e0, e1, e2, e3⟩ := X0.below hb4))
    exact bodyPost_ret (v := ov 0 0 ⟨#[]⟩ e) (by simp [results, Tryz.results61, go_sem, *]) rfl ⟨rfl, put4_below (o := fl e) (bel_trans B0 hb4) (Nat.le_refl _)⟩
set_option maxRecDepth 100000 in
set_option maxHeartbeats 4000000 in
theorem c_compute5 (x y : Int) (hx : Fits x) (hy : Fits y) (w : World) : Ret 61 #[.int .u8 5, .int .i64 x, .int .i64 y] w (enc (numO 5 x y)) := by
  have hA : ∀ W, Calls Tryz.prog 74 #[.int .i64 x, .int .i64 y] W fun e w' => e = .returned (pair (arith 5 x y).1 (arith 5 x y).2) ∧ W = w' := fun W => by rw [show arith 5 x y = ex (x + y) from rfl, ← exact_ex]; exact c_Add x y hx hy W
  unfold numO
  generalize arith 5 x y = q at hA ⊢
  obtain ⟨n, e⟩ := q
  clear hx hy
  have hsz : (w.alloc (.cells #[.int .u8 0, .int .i64 0, .string ⟨#[]⟩, .int .i64 0] 31)).heap.size = w.heap.size + 1 := by simp
  have m0 := run_make 104 (w.alloc (.cells #[.int .u8 0, .int .i64 0, .string ⟨#[]⟩, .int .i64 0] 31))
  rw [hsz] at m0
  have m1 := run_insert Tryz.underlying104 Tryz.underlying22 (w.alloc (.cells #[.int .u8 0, .int .i64 0, .string ⟨#[]⟩, .int .i64 0] 31)) [] 4 72 rfl (b := w.heap.size + 1) hsz.symm
  simp only [List.nil_append, List.cons_append] at m1
  have m2 := run_insert Tryz.underlying104 Tryz.underlying22 (w.alloc (.cells #[.int .u8 0, .int .i64 0, .string ⟨#[]⟩, .int .i64 0] 31)) [(4, 72)] 5 74 rfl (b := w.heap.size + 1) hsz.symm
  simp only [List.nil_append, List.cons_append] at m2
  have m3 := run_insert Tryz.underlying104 Tryz.underlying22 (w.alloc (.cells #[.int .u8 0, .int .i64 0, .string ⟨#[]⟩, .int .i64 0] 31)) [(4, 72), (5, 74)] 6 73 rfl (b := w.heap.size + 1) hsz.symm
  simp only [List.nil_append, List.cons_append] at m3
  have m4 := run_insert Tryz.underlying104 Tryz.underlying22 (w.alloc (.cells #[.int .u8 0, .int .i64 0, .string ⟨#[]⟩, .int .i64 0] 31)) [(4, 72), (5, 74), (6, 73)] 7 75 rfl (b := w.heap.size + 1) hsz.symm
  simp only [List.nil_append, List.cons_append] at m4
  have m5 := run_insert Tryz.underlying104 Tryz.underlying22 (w.alloc (.cells #[.int .u8 0, .int .i64 0, .string ⟨#[]⟩, .int .i64 0] 31)) [(4, 72), (5, 74), (6, 73), (7, 75)] 8 76 rfl (b := w.heap.size + 1) hsz.symm
  simp only [List.nil_append, List.cons_append] at m5
  have m6 := run_insert Tryz.underlying104 Tryz.underlying22 (w.alloc (.cells #[.int .u8 0, .int .i64 0, .string ⟨#[]⟩, .int .i64 0] 31)) [(4, 72), (5, 74), (6, 73), (7, 75), (8, 76)] 9 77 rfl (b := w.heap.size + 1) hsz.symm
  simp only [List.nil_append, List.cons_append] at m6
  have ml := run_look Tryz.underlying104 Tryz.underlying22 (W := (w.alloc (.cells #[.int .u8 0, .int .i64 0, .string ⟨#[]⟩, .int .i64 0] 31))) [(4, 72), (5, 74), (6, 73), (7, 75), (8, 76), (9, 77)] 5 74 rfl (b := w.heap.size + 1) hsz.symm
  have BM := mapW_below (w.alloc (.cells #[.int .u8 0, .int .i64 0, .string ⟨#[]⟩, .int .i64 0] 31)) [(4, 72), (5, 74), (6, 73), (7, 75), (8, 76), (9, 77)]
  have X0 := (Box.new w nul).below BM
  change Box (mapW (w.alloc (.cells #[.int .u8 0, .int .i64 0, .string ⟨#[]⟩, .int .i64 0] 31)) [(4, 72), (5, 74), (6, 73), (7, 75), (8, 76), (9, 77)]) _ _ at X0
  have B0 : Below w.heap.size w (mapW (w.alloc (.cells #[.int .u8 0, .int .i64 0, .string ⟨#[]⟩, .int .i64 0] 31)) [(4, 72), (5, 74), (6, 73), (7, 75), (8, 76), (9, 77)]) := bel_trans (bel_alloc (Below.refl _ _) _) BM
  by_cases he : e = 0
  · subst he
    have hz : (if ((n, (0 : Int)).2 ≠ 0) then fl (n, (0 : Int)).2 else ⟨1, (n, (0 : Int)).1, ⟨#[]⟩, 0⟩ : Ot) = ⟨1, n, ⟨#[]⟩, 0⟩ := rfl
    rw [hz]
    go_enter Tryz.func61, Tryz.ntmps61
    go_upto_region 2 with fail
    clear m0 m1 m2 m3 m4 m5 m6 BM hsz hz
    generalize mapW (w.alloc (.cells #[.int .u8 0, .int .i64 0, .string ⟨#[]⟩, .int .i64 0] 31)) [(4, 72), (5, 74), (6, 73), (7, 75), (8, 76), (9, 77)] = wm at ml X0 B0 ⊢
    go_wp2_with (first | (go_at_call 74; refine (hA _).mono ?_; rintro e w' ⟨rfl, rfl⟩) | (go_at_call 59; refine (c_Int n _).mono ?_; rintro e w4 ⟨rfl, hb4⟩; obtain ⟨hx, d0, d1, d2, d3, e0, e1, e2, e3⟩ := X0.below hb4))
    exact bodyPost_ret (v := ov 1 n ⟨#[]⟩ 0) (by simp [results, Tryz.results61, go_sem, *]) rfl ⟨rfl, put4_below (o := ⟨1, n, ⟨#[]⟩, 0⟩) (bel_trans B0 hb4) (Nat.le_refl _)⟩
  · have hz : (if ((n, e).2 ≠ 0) then fl (n, e).2 else ⟨1, (n, e).1, ⟨#[]⟩, 0⟩ : Ot) = fl e := if_pos he
    rw [hz]
    have he2 : (e != 0) = true := by simpa using he
    go_enter Tryz.func61, Tryz.ntmps61
    go_upto_region 2 with fail
    clear m0 m1 m2 m3 m4 m5 m6 BM hsz hz
    generalize mapW (w.alloc (.cells #[.int .u8 0, .int .i64 0, .string ⟨#[]⟩, .int .i64 0] 31)) [(4, 72), (5, 74), (6, 73), (7, 75), (8, 76), (9, 77)] = wm at ml X0 B0 ⊢
    go_wp2_with (first | (go_at_call 74; refine (hA _).mono ?_; rintro e w' ⟨rfl, rfl⟩) | (go_at_call 13; refine (c_failing e _).mono ?_; rintro e w4 ⟨rfl, hb4⟩; obtain ⟨hx, d0, d1, d2, d3, e0, e1, e2, e3⟩ := X0.below hb4))
    exact bodyPost_ret (v := ov 0 0 ⟨#[]⟩ e) (by simp [results, Tryz.results61, go_sem, *]) rfl ⟨rfl, put4_below (o := fl e) (bel_trans B0 hb4) (Nat.le_refl _)⟩
set_option maxRecDepth 100000 in
set_option maxHeartbeats 4000000 in
theorem c_compute6 (x y : Int) (hx : Fits x) (hy : Fits y) (w : World) : Ret 61 #[.int .u8 6, .int .i64 x, .int .i64 y] w (enc (numO 6 x y)) := by
  have hA : ∀ W, Calls Tryz.prog 73 #[.int .i64 x, .int .i64 y] W fun e w' => e = .returned (pair (arith 6 x y).1 (arith 6 x y).2) ∧ W = w' := fun W => by rw [show arith 6 x y = ex (x - y) from rfl, ← exact_ex]; exact c_Sub x y hx hy W
  unfold numO
  generalize arith 6 x y = q at hA ⊢
  obtain ⟨n, e⟩ := q
  clear hx hy
  have hsz : (w.alloc (.cells #[.int .u8 0, .int .i64 0, .string ⟨#[]⟩, .int .i64 0] 31)).heap.size = w.heap.size + 1 := by simp
  have m0 := run_make 104 (w.alloc (.cells #[.int .u8 0, .int .i64 0, .string ⟨#[]⟩, .int .i64 0] 31))
  rw [hsz] at m0
  have m1 := run_insert Tryz.underlying104 Tryz.underlying22 (w.alloc (.cells #[.int .u8 0, .int .i64 0, .string ⟨#[]⟩, .int .i64 0] 31)) [] 4 72 rfl (b := w.heap.size + 1) hsz.symm
  simp only [List.nil_append, List.cons_append] at m1
  have m2 := run_insert Tryz.underlying104 Tryz.underlying22 (w.alloc (.cells #[.int .u8 0, .int .i64 0, .string ⟨#[]⟩, .int .i64 0] 31)) [(4, 72)] 5 74 rfl (b := w.heap.size + 1) hsz.symm
  simp only [List.nil_append, List.cons_append] at m2
  have m3 := run_insert Tryz.underlying104 Tryz.underlying22 (w.alloc (.cells #[.int .u8 0, .int .i64 0, .string ⟨#[]⟩, .int .i64 0] 31)) [(4, 72), (5, 74)] 6 73 rfl (b := w.heap.size + 1) hsz.symm
  simp only [List.nil_append, List.cons_append] at m3
  have m4 := run_insert Tryz.underlying104 Tryz.underlying22 (w.alloc (.cells #[.int .u8 0, .int .i64 0, .string ⟨#[]⟩, .int .i64 0] 31)) [(4, 72), (5, 74), (6, 73)] 7 75 rfl (b := w.heap.size + 1) hsz.symm
  simp only [List.nil_append, List.cons_append] at m4
  have m5 := run_insert Tryz.underlying104 Tryz.underlying22 (w.alloc (.cells #[.int .u8 0, .int .i64 0, .string ⟨#[]⟩, .int .i64 0] 31)) [(4, 72), (5, 74), (6, 73), (7, 75)] 8 76 rfl (b := w.heap.size + 1) hsz.symm
  simp only [List.nil_append, List.cons_append] at m5
  have m6 := run_insert Tryz.underlying104 Tryz.underlying22 (w.alloc (.cells #[.int .u8 0, .int .i64 0, .string ⟨#[]⟩, .int .i64 0] 31)) [(4, 72), (5, 74), (6, 73), (7, 75), (8, 76)] 9 77 rfl (b := w.heap.size + 1) hsz.symm
  simp only [List.nil_append, List.cons_append] at m6
  have ml := run_look Tryz.underlying104 Tryz.underlying22 (W := (w.alloc (.cells #[.int .u8 0, .int .i64 0, .string ⟨#[]⟩, .int .i64 0] 31))) [(4, 72), (5, 74), (6, 73), (7, 75), (8, 76), (9, 77)] 6 73 rfl (b := w.heap.size + 1) hsz.symm
  have BM := mapW_below (w.alloc (.cells #[.int .u8 0, .int .i64 0, .string ⟨#[]⟩, .int .i64 0] 31)) [(4, 72), (5, 74), (6, 73), (7, 75), (8, 76), (9, 77)]
  have X0 := (Box.new w nul).below BM
  change Box (mapW (w.alloc (.cells #[.int .u8 0, .int .i64 0, .string ⟨#[]⟩, .int .i64 0] 31)) [(4, 72), (5, 74), (6, 73), (7, 75), (8, 76), (9, 77)]) _ _ at X0
  have B0 : Below w.heap.size w (mapW (w.alloc (.cells #[.int .u8 0, .int .i64 0, .string ⟨#[]⟩, .int .i64 0] 31)) [(4, 72), (5, 74), (6, 73), (7, 75), (8, 76), (9, 77)]) := bel_trans (bel_alloc (Below.refl _ _) _) BM
  by_cases he : e = 0
  · subst he
    have hz : (if ((n, (0 : Int)).2 ≠ 0) then fl (n, (0 : Int)).2 else ⟨1, (n, (0 : Int)).1, ⟨#[]⟩, 0⟩ : Ot) = ⟨1, n, ⟨#[]⟩, 0⟩ := rfl
    rw [hz]
    go_enter Tryz.func61, Tryz.ntmps61
    go_upto_region 2 with fail
    clear m0 m1 m2 m3 m4 m5 m6 BM hsz hz
    generalize mapW (w.alloc (.cells #[.int .u8 0, .int .i64 0, .string ⟨#[]⟩, .int .i64 0] 31)) [(4, 72), (5, 74), (6, 73), (7, 75), (8, 76), (9, 77)] = wm at ml X0 B0 ⊢
    go_wp2_with (first | (go_at_call 73; refine (hA _).mono ?_; rintro e w' ⟨rfl, rfl⟩) | (go_at_call 59; refine (c_Int n _).mono ?_; rintro e w4 ⟨rfl, hb4⟩; obtain ⟨hx, d0, d1, d2, d3, e0, e1, e2, e3⟩ := X0.below hb4))
    exact bodyPost_ret (v := ov 1 n ⟨#[]⟩ 0) (by simp [results, Tryz.results61, go_sem, *]) rfl ⟨rfl, put4_below (o := ⟨1, n, ⟨#[]⟩, 0⟩) (bel_trans B0 hb4) (Nat.le_refl _)⟩
  · have hz : (if ((n, e).2 ≠ 0) then fl (n, e).2 else ⟨1, (n, e).1, ⟨#[]⟩, 0⟩ : Ot) = fl e := if_pos he
    rw [hz]
    have he2 : (e != 0) = true := by simpa using he
    go_enter Tryz.func61, Tryz.ntmps61
    go_upto_region 2 with fail
    clear m0 m1 m2 m3 m4 m5 m6 BM hsz hz
    generalize mapW (w.alloc (.cells #[.int .u8 0, .int .i64 0, .string ⟨#[]⟩, .int .i64 0] 31)) [(4, 72), (5, 74), (6, 73), (7, 75), (8, 76), (9, 77)] = wm at ml X0 B0 ⊢
    go_wp2_with (first | (go_at_call 73; refine (hA _).mono ?_; rintro e w' ⟨rfl, rfl⟩) | (go_at_call 13; refine (c_failing e _).mono ?_; rintro e w4 ⟨rfl, hb4⟩; obtain ⟨hx, d0, d1, d2, d3, e0, e1, e2, e3⟩ := X0.below hb4))
    exact bodyPost_ret (v := ov 0 0 ⟨#[]⟩ e) (by simp [results, Tryz.results61, go_sem, *]) rfl ⟨rfl, put4_below (o := fl e) (bel_trans B0 hb4) (Nat.le_refl _)⟩
set_option maxRecDepth 100000 in
set_option maxHeartbeats 4000000 in
theorem c_compute7 (x y : Int) (hx : Fits x) (hy : Fits y) (w : World) : Ret 61 #[.int .u8 7, .int .i64 x, .int .i64 y] w (enc (numO 7 x y)) := by
  have hA : ∀ W, Calls Tryz.prog 75 #[.int .i64 x, .int .i64 y] W fun e w' => e = .returned (pair (arith 7 x y).1 (arith 7 x y).2) ∧ W = w' := fun W => by rw [show arith 7 x y = ex (x * y) from rfl, ← exact_ex]; exact c_Mul x y hx hy W
  unfold numO
  generalize arith 7 x y = q at hA ⊢
  obtain ⟨n, e⟩ := q
  clear hx hy
  have hsz : (w.alloc (.cells #[.int .u8 0, .int .i64 0, .string ⟨#[]⟩, .int .i64 0] 31)).heap.size = w.heap.size + 1 := by simp
  have m0 := run_make 104 (w.alloc (.cells #[.int .u8 0, .int .i64 0, .string ⟨#[]⟩, .int .i64 0] 31))
  rw [hsz] at m0
  have m1 := run_insert Tryz.underlying104 Tryz.underlying22 (w.alloc (.cells #[.int .u8 0, .int .i64 0, .string ⟨#[]⟩, .int .i64 0] 31)) [] 4 72 rfl (b := w.heap.size + 1) hsz.symm
  simp only [List.nil_append, List.cons_append] at m1
  have m2 := run_insert Tryz.underlying104 Tryz.underlying22 (w.alloc (.cells #[.int .u8 0, .int .i64 0, .string ⟨#[]⟩, .int .i64 0] 31)) [(4, 72)] 5 74 rfl (b := w.heap.size + 1) hsz.symm
  simp only [List.nil_append, List.cons_append] at m2
  have m3 := run_insert Tryz.underlying104 Tryz.underlying22 (w.alloc (.cells #[.int .u8 0, .int .i64 0, .string ⟨#[]⟩, .int .i64 0] 31)) [(4, 72), (5, 74)] 6 73 rfl (b := w.heap.size + 1) hsz.symm
  simp only [List.nil_append, List.cons_append] at m3
  have m4 := run_insert Tryz.underlying104 Tryz.underlying22 (w.alloc (.cells #[.int .u8 0, .int .i64 0, .string ⟨#[]⟩, .int .i64 0] 31)) [(4, 72), (5, 74), (6, 73)] 7 75 rfl (b := w.heap.size + 1) hsz.symm
  simp only [List.nil_append, List.cons_append] at m4
  have m5 := run_insert Tryz.underlying104 Tryz.underlying22 (w.alloc (.cells #[.int .u8 0, .int .i64 0, .string ⟨#[]⟩, .int .i64 0] 31)) [(4, 72), (5, 74), (6, 73), (7, 75)] 8 76 rfl (b := w.heap.size + 1) hsz.symm
  simp only [List.nil_append, List.cons_append] at m5
  have m6 := run_insert Tryz.underlying104 Tryz.underlying22 (w.alloc (.cells #[.int .u8 0, .int .i64 0, .string ⟨#[]⟩, .int .i64 0] 31)) [(4, 72), (5, 74), (6, 73), (7, 75), (8, 76)] 9 77 rfl (b := w.heap.size + 1) hsz.symm
  simp only [List.nil_append, List.cons_append] at m6
  have ml := run_look Tryz.underlying104 Tryz.underlying22 (W := (w.alloc (.cells #[.int .u8 0, .int .i64 0, .string ⟨#[]⟩, .int .i64 0] 31))) [(4, 72), (5, 74), (6, 73), (7, 75), (8, 76), (9, 77)] 7 75 rfl (b := w.heap.size + 1) hsz.symm
  have BM := mapW_below (w.alloc (.cells #[.int .u8 0, .int .i64 0, .string ⟨#[]⟩, .int .i64 0] 31)) [(4, 72), (5, 74), (6, 73), (7, 75), (8, 76), (9, 77)]
  have X0 := (Box.new w nul).below BM
  change Box (mapW (w.alloc (.cells #[.int .u8 0, .int .i64 0, .string ⟨#[]⟩, .int .i64 0] 31)) [(4, 72), (5, 74), (6, 73), (7, 75), (8, 76), (9, 77)]) _ _ at X0
  have B0 : Below w.heap.size w (mapW (w.alloc (.cells #[.int .u8 0, .int .i64 0, .string ⟨#[]⟩, .int .i64 0] 31)) [(4, 72), (5, 74), (6, 73), (7, 75), (8, 76), (9, 77)]) := bel_trans (bel_alloc (Below.refl _ _) _) BM
  by_cases he : e = 0
  · subst he
    have hz : (if ((n, (0 : Int)).2 ≠ 0) then fl (n, (0 : Int)).2 else ⟨1, (n, (0 : Int)).1, ⟨#[]⟩, 0⟩ : Ot) = ⟨1, n, ⟨#[]⟩, 0⟩ := rfl
    rw [hz]
    go_enter Tryz.func61, Tryz.ntmps61
    go_upto_region 2 with fail
    clear m0 m1 m2 m3 m4 m5 m6 BM hsz hz
    generalize mapW (w.alloc (.cells #[.int .u8 0, .int .i64 0, .string ⟨#[]⟩, .int .i64 0] 31)) [(4, 72), (5, 74), (6, 73), (7, 75), (8, 76), (9, 77)] = wm at ml X0 B0 ⊢
    go_wp2_with (first | (go_at_call 75; refine (hA _).mono ?_; rintro e w' ⟨rfl, rfl⟩) | (go_at_call 59; refine (c_Int n _).mono ?_; rintro e w4 ⟨rfl, hb4⟩; obtain ⟨hx, d0, d1, d2, d3, e0, e1, e2, e3⟩ := X0.below hb4))
    exact bodyPost_ret (v := ov 1 n ⟨#[]⟩ 0) (by simp [results, Tryz.results61, go_sem, *]) rfl ⟨rfl, put4_below (o := ⟨1, n, ⟨#[]⟩, 0⟩) (bel_trans B0 hb4) (Nat.le_refl _)⟩
  · have hz : (if ((n, e).2 ≠ 0) then fl (n, e).2 else ⟨1, (n, e).1, ⟨#[]⟩, 0⟩ : Ot) = fl e := if_pos he
    rw [hz]
    have he2 : (e != 0) = true := by simpa using he
    go_enter Tryz.func61, Tryz.ntmps61
    go_upto_region 2 with fail
    clear m0 m1 m2 m3 m4 m5 m6 BM hsz hz
    generalize mapW (w.alloc (.cells #[.int .u8 0, .int .i64 0, .string ⟨#[]⟩, .int .i64 0] 31)) [(4, 72), (5, 74), (6, 73), (7, 75), (8, 76), (9, 77)] = wm at ml X0 B0 ⊢
    go_wp2_with (first | (go_at_call 75; refine (hA _).mono ?_; rintro e w' ⟨rfl, rfl⟩) | (go_at_call 13; refine (c_failing e _).mono ?_; rintro e w4 ⟨rfl, hb4⟩; obtain ⟨hx, d0, d1, d2, d3, e0, e1, e2, e3⟩ := X0.below hb4))
    exact bodyPost_ret (v := ov 0 0 ⟨#[]⟩ e) (by simp [results, Tryz.results61, go_sem, *]) rfl ⟨rfl, put4_below (o := fl e) (bel_trans B0 hb4) (Nat.le_refl _)⟩
set_option maxRecDepth 100000 in
set_option maxHeartbeats 4000000 in
theorem c_compute8 (x y : Int) (hx : Fits x) (hy : Fits y) (w : World) : Ret 61 #[.int .u8 8, .int .i64 x, .int .i64 y] w (enc (numO 8 x y)) := by
  have hA : ∀ W, Calls Tryz.prog 76 #[.int .i64 x, .int .i64 y] W fun e w' => e = .returned (pair (arith 8 x y).1 (arith 8 x y).2) ∧ W = w' := fun W => by rw [show (pair (arith 8 x y).1 (arith 8 x y).2) = divV x y by (unfold divV; rw [exact_ex, show arith 8 x y = (if y = 0 then (0, 3) else ex (x.tdiv y)) from rfl]; split <;> rfl)]; exact c_Div x y hx hy W
  unfold numO
  generalize arith 8 x y = q at hA ⊢
  obtain ⟨n, e⟩ := q
  clear hx hy
  have hsz : (w.alloc (.cells #[.int .u8 0, .int .i64 0, .string ⟨#[]⟩, .int .i64 0] 31)).heap.size = w.heap.size + 1 := by simp
  have m0 := run_make 104 (w.alloc (.cells #[.int .u8 0, .int .i64 0, .string ⟨#[]⟩, .int .i64 0] 31))
  rw [hsz] at m0
  have m1 := run_insert Tryz.underlying104 Tryz.underlying22 (w.alloc (.cells #[.int .u8 0, .int .i64 0, .string ⟨#[]⟩, .int .i64 0] 31)) [] 4 72 rfl (b := w.heap.size + 1) hsz.symm
  simp only [List.nil_append, List.cons_append] at m1
  have m2 := run_insert Tryz.underlying104 Tryz.underlying22 (w.alloc (.cells #[.int .u8 0, .int .i64 0, .string ⟨#[]⟩, .int .i64 0] 31)) [(4, 72)] 5 74 rfl (b := w.heap.size + 1) hsz.symm
  simp only [List.nil_append, List.cons_append] at m2
  have m3 := run_insert Tryz.underlying104 Tryz.underlying22 (w.alloc (.cells #[.int .u8 0, .int .i64 0, .string ⟨#[]⟩, .int .i64 0] 31)) [(4, 72), (5, 74)] 6 73 rfl (b := w.heap.size + 1) hsz.symm
  simp only [List.nil_append, List.cons_append] at m3
  have m4 := run_insert Tryz.underlying104 Tryz.underlying22 (w.alloc (.cells #[.int .u8 0, .int .i64 0, .string ⟨#[]⟩, .int .i64 0] 31)) [(4, 72), (5, 74), (6, 73)] 7 75 rfl (b := w.heap.size + 1) hsz.symm
  simp only [List.nil_append, List.cons_append] at m4
  have m5 := run_insert Tryz.underlying104 Tryz.underlying22 (w.alloc (.cells #[.int .u8 0, .int .i64 0, .string ⟨#[]⟩, .int .i64 0] 31)) [(4, 72), (5, 74), (6, 73), (7, 75)] 8 76 rfl (b := w.heap.size + 1) hsz.symm
  simp only [List.nil_append, List.cons_append] at m5
  have m6 := run_insert Tryz.underlying104 Tryz.underlying22 (w.alloc (.cells #[.int .u8 0, .int .i64 0, .string ⟨#[]⟩, .int .i64 0] 31)) [(4, 72), (5, 74), (6, 73), (7, 75), (8, 76)] 9 77 rfl (b := w.heap.size + 1) hsz.symm
  simp only [List.nil_append, List.cons_append] at m6
  have ml := run_look Tryz.underlying104 Tryz.underlying22 (W := (w.alloc (.cells #[.int .u8 0, .int .i64 0, .string ⟨#[]⟩, .int .i64 0] 31))) [(4, 72), (5, 74), (6, 73), (7, 75), (8, 76), (9, 77)] 8 76 rfl (b := w.heap.size + 1) hsz.symm
  have BM := mapW_below (w.alloc (.cells #[.int .u8 0, .int .i64 0, .string ⟨#[]⟩, .int .i64 0] 31)) [(4, 72), (5, 74), (6, 73), (7, 75), (8, 76), (9, 77)]
  have X0 := (Box.new w nul).below BM
  change Box (mapW (w.alloc (.cells #[.int .u8 0, .int .i64 0, .string ⟨#[]⟩, .int .i64 0] 31)) [(4, 72), (5, 74), (6, 73), (7, 75), (8, 76), (9, 77)]) _ _ at X0
  have B0 : Below w.heap.size w (mapW (w.alloc (.cells #[.int .u8 0, .int .i64 0, .string ⟨#[]⟩, .int .i64 0] 31)) [(4, 72), (5, 74), (6, 73), (7, 75), (8, 76), (9, 77)]) := bel_trans (bel_alloc (Below.refl _ _) _) BM
  by_cases he : e = 0
  · subst he
    have hz : (if ((n, (0 : Int)).2 ≠ 0) then fl (n, (0 : Int)).2 else ⟨1, (n, (0 : Int)).1, ⟨#[]⟩, 0⟩ : Ot) = ⟨1, n, ⟨#[]⟩, 0⟩ := rfl
    rw [hz]
    go_enter Tryz.func61, Tryz.ntmps61
    go_upto_region 2 with fail
    clear m0 m1 m2 m3 m4 m5 m6 BM hsz hz
    generalize mapW (w.alloc (.cells #[.int .u8 0, .int .i64 0, .string ⟨#[]⟩, .int .i64 0] 31)) [(4, 72), (5, 74), (6, 73), (7, 75), (8, 76), (9, 77)] = wm at ml X0 B0 ⊢
    go_wp2_with (first | (go_at_call 76; refine (hA _).mono ?_; rintro e w' ⟨rfl, rfl⟩) | (go_at_call 59; refine (c_Int n _).mono ?_; rintro e w4 ⟨rfl, hb4⟩; obtain ⟨hx, d0, d1, d2, d3, e0, e1, e2, e3⟩ := X0.below hb4))
    exact bodyPost_ret (v := ov 1 n ⟨#[]⟩ 0) (by simp [results, Tryz.results61, go_sem, *]) rfl ⟨rfl, put4_below (o := ⟨1, n, ⟨#[]⟩, 0⟩) (bel_trans B0 hb4) (Nat.le_refl _)⟩
  · have hz : (if ((n, e).2 ≠ 0) then fl (n, e).2 else ⟨1, (n, e).1, ⟨#[]⟩, 0⟩ : Ot) = fl e := if_pos he
    rw [hz]
    have he2 : (e != 0) = true := by simpa using he
    go_enter Tryz.func61, Tryz.ntmps61
    go_upto_region 2 with fail
    clear m0 m1 m2 m3 m4 m5 m6 BM hsz hz
    generalize mapW (w.alloc (.cells #[.int .u8 0, .int .i64 0, .string ⟨#[]⟩, .int .i64 0] 31)) [(4, 72), (5, 74), (6, 73), (7, 75), (8, 76), (9, 77)] = wm at ml X0 B0 ⊢
    go_wp2_with (first | (go_at_call 76; refine (hA _).mono ?_; rintro e w' ⟨rfl, rfl⟩) | (go_at_call 13; refine (c_failing e _).mono ?_; rintro e w4 ⟨rfl, hb4⟩; obtain ⟨hx, d0, d1, d2, d3, e0, e1, e2, e3⟩ := X0.below hb4))
    exact bodyPost_ret (v := ov 0 0 ⟨#[]⟩ e) (by simp [results, Tryz.results61, go_sem, *]) rfl ⟨rfl, put4_below (o := fl e) (bel_trans B0 hb4) (Nat.le_refl _)⟩
set_option maxRecDepth 100000 in
set_option maxHeartbeats 4000000 in
theorem c_compute9 (x y : Int) (hx : Fits x) (hy : Fits y) (w : World) : Ret 61 #[.int .u8 9, .int .i64 x, .int .i64 y] w (enc (numO 9 x y)) := by
  have hA : ∀ W, Calls Tryz.prog 77 #[.int .i64 x, .int .i64 y] W fun e w' => e = .returned (pair (arith 9 x y).1 (arith 9 x y).2) ∧ W = w' := fun W => by rw [show (pair (arith 9 x y).1 (arith 9 x y).2) = modV x y by (unfold modV; rw [show arith 9 x y = (if y = 0 then (0, 3) else (x.tmod y, 0)) from rfl]; split <;> rfl)]; exact c_Mod x y hx W
  unfold numO
  generalize arith 9 x y = q at hA ⊢
  obtain ⟨n, e⟩ := q
  clear hx hy
  have hsz : (w.alloc (.cells #[.int .u8 0, .int .i64 0, .string ⟨#[]⟩, .int .i64 0] 31)).heap.size = w.heap.size + 1 := by simp
  have m0 := run_make 104 (w.alloc (.cells #[.int .u8 0, .int .i64 0, .string ⟨#[]⟩, .int .i64 0] 31))
  rw [hsz] at m0
  have m1 := run_insert Tryz.underlying104 Tryz.underlying22 (w.alloc (.cells #[.int .u8 0, .int .i64 0, .string ⟨#[]⟩, .int .i64 0] 31)) [] 4 72 rfl (b := w.heap.size + 1) hsz.symm
  simp only [List.nil_append, List.cons_append] at m1
  have m2 := run_insert Tryz.underlying104 Tryz.underlying22 (w.alloc (.cells #[.int .u8 0, .int .i64 0, .string ⟨#[]⟩, .int .i64 0] 31)) [(4, 72)] 5 74 rfl (b := w.heap.size + 1) hsz.symm
  simp only [List.nil_append, List.cons_append] at m2
  have m3 := run_insert Tryz.underlying104 Tryz.underlying22 (w.alloc (.cells #[.int .u8 0, .int .i64 0, .string ⟨#[]⟩, .int .i64 0] 31)) [(4, 72), (5, 74)] 6 73 rfl (b := w.heap.size + 1) hsz.symm
  simp only [List.nil_append, List.cons_append] at m3
  have m4 := run_insert Tryz.underlying104 Tryz.underlying22 (w.alloc (.cells #[.int .u8 0, .int .i64 0, .string ⟨#[]⟩, .int .i64 0] 31)) [(4, 72), (5, 74), (6, 73)] 7 75 rfl (b := w.heap.size + 1) hsz.symm
  simp only [List.nil_append, List.cons_append] at m4
  have m5 := run_insert Tryz.underlying104 Tryz.underlying22 (w.alloc (.cells #[.int .u8 0, .int .i64 0, .string ⟨#[]⟩, .int .i64 0] 31)) [(4, 72), (5, 74), (6, 73), (7, 75)] 8 76 rfl (b := w.heap.size + 1) hsz.symm
  simp only [List.nil_append, List.cons_append] at m5
  have m6 := run_insert Tryz.underlying104 Tryz.underlying22 (w.alloc (.cells #[.int .u8 0, .int .i64 0, .string ⟨#[]⟩, .int .i64 0] 31)) [(4, 72), (5, 74), (6, 73), (7, 75), (8, 76)] 9 77 rfl (b := w.heap.size + 1) hsz.symm
  simp only [List.nil_append, List.cons_append] at m6
  have ml := run_look Tryz.underlying104 Tryz.underlying22 (W := (w.alloc (.cells #[.int .u8 0, .int .i64 0, .string ⟨#[]⟩, .int .i64 0] 31))) [(4, 72), (5, 74), (6, 73), (7, 75), (8, 76), (9, 77)] 9 77 rfl (b := w.heap.size + 1) hsz.symm
  have BM := mapW_below (w.alloc (.cells #[.int .u8 0, .int .i64 0, .string ⟨#[]⟩, .int .i64 0] 31)) [(4, 72), (5, 74), (6, 73), (7, 75), (8, 76), (9, 77)]
  have X0 := (Box.new w nul).below BM
  change Box (mapW (w.alloc (.cells #[.int .u8 0, .int .i64 0, .string ⟨#[]⟩, .int .i64 0] 31)) [(4, 72), (5, 74), (6, 73), (7, 75), (8, 76), (9, 77)]) _ _ at X0
  have B0 : Below w.heap.size w (mapW (w.alloc (.cells #[.int .u8 0, .int .i64 0, .string ⟨#[]⟩, .int .i64 0] 31)) [(4, 72), (5, 74), (6, 73), (7, 75), (8, 76), (9, 77)]) := bel_trans (bel_alloc (Below.refl _ _) _) BM
  by_cases he : e = 0
  · subst he
    have hz : (if ((n, (0 : Int)).2 ≠ 0) then fl (n, (0 : Int)).2 else ⟨1, (n, (0 : Int)).1, ⟨#[]⟩, 0⟩ : Ot) = ⟨1, n, ⟨#[]⟩, 0⟩ := rfl
    rw [hz]
    go_enter Tryz.func61, Tryz.ntmps61
    go_upto_region 2 with fail
    clear m0 m1 m2 m3 m4 m5 m6 BM hsz hz
    generalize mapW (w.alloc (.cells #[.int .u8 0, .int .i64 0, .string ⟨#[]⟩, .int .i64 0] 31)) [(4, 72), (5, 74), (6, 73), (7, 75), (8, 76), (9, 77)] = wm at ml X0 B0 ⊢
    go_wp2_with (first | (go_at_call 77; refine (hA _).mono ?_; rintro e w' ⟨rfl, rfl⟩) | (go_at_call 59; refine (c_Int n _).mono ?_; rintro e w4 ⟨rfl, hb4⟩; obtain ⟨hx, d0, d1, d2, d3, e0, e1, e2, e3⟩ := X0.below hb4))
    exact bodyPost_ret (v := ov 1 n ⟨#[]⟩ 0) (by simp [results, Tryz.results61, go_sem, *]) rfl ⟨rfl, put4_below (o := ⟨1, n, ⟨#[]⟩, 0⟩) (bel_trans B0 hb4) (Nat.le_refl _)⟩
  · have hz : (if ((n, e).2 ≠ 0) then fl (n, e).2 else ⟨1, (n, e).1, ⟨#[]⟩, 0⟩ : Ot) = fl e := if_pos he
    rw [hz]
    have he2 : (e != 0) = true := by simpa using he
    go_enter Tryz.func61, Tryz.ntmps61
    go_upto_region 2 with fail
    clear m0 m1 m2 m3 m4 m5 m6 BM hsz hz
    generalize mapW (w.alloc (.cells #[.int .u8 0, .int .i64 0, .string ⟨#[]⟩, .int .i64 0] 31)) [(4, 72), (5, 74), (6, 73), (7, 75), (8, 76), (9, 77)] = wm at ml X0 B0 ⊢
    go_wp2_with (first | (go_at_call 77; refine (hA _).mono ?_; rintro e w' ⟨rfl, rfl⟩) | (go_at_call 13; refine (c_failing e _).mono ?_; rintro e w4 ⟨rfl, hb4⟩; obtain ⟨hx, d0, d1, d2, d3, e0, e1, e2, e3⟩ := X0.below hb4))
    exact bodyPost_ret (v := ov 0 0 ⟨#[]⟩ e) (by simp [results, Tryz.results61, go_sem, *]) rfl ⟨rfl, put4_below (o := fl e) (bel_trans B0 hb4) (Nat.le_refl _)⟩
end Go.Proofs.YtdbhencjomnjhaaGreatDoor.U
namespace Go.Proofs.YtdbhencjomnjhaaGreatDoor.V
open Go.ChangeShapes Go.WideShapes Go.ChangeAt Go.RowKit
theorem l_TrimLeft (s : ByteArray) (w : World) : Calls Tryz.prog 71 #[.string s, .string ⟨#[37]⟩] w fun e w' => e = .returned (.string ⟨(Lib.trimLeftB s.data.toList 37).toArray⟩) ∧ w = w' :=
  (Tryz.strings_TrimLeft_one s 37 (by decide) w).mono fun _ _ ⟨he, hw⟩ => ⟨he, hw.symm⟩
theorem drop_consM (s : ByteArray) (k : Nat) (h : k < s.size) : s.data.toList.drop k = s[k] :: s.data.toList.drop (k + 1) := by
  rw [List.drop_eq_getElem_cons (by simpa using h)]; rfl
theorem drop_endM (s : ByteArray) (k : Nat) (h : s.size ≤ k) : s.data.toList.drop k = [] := List.drop_eq_nil_of_le (by simpa using h)
/-- The text matches the pattern. -/
def matchB (s p : ByteArray) : Bool := M.mt s.data.toList p.data.toList
theorem trim_all (l : List UInt8) : (Lib.trimLeftB l 37).isEmpty = l.all (· == 37) := by
  unfold Lib.trimLeftB
  induction l with
  | nil => rfl
  | cons d l ih =>
    rw [List.dropWhile_cons, List.all_cons]
    by_cases h : d = 37 <;> simp [h, ih]
theorem ms_1 (N : Nat) {A A' x x' y y' : Nat} (h : A' + 1 ≤ A) (hx : x' ≤ N) (hy : y' ≤ N) : A' * ((N + 1) * (N + 1)) + x' * (N + 1) + y' < A * ((N + 1) * (N + 1)) + x * (N + 1) + y := by
  have h1 := Nat.mul_le_mul_right ((N + 1) * (N + 1)) h
  have h2 := Nat.mul_le_mul_right (N + 1) hx
  have h3 : (N + 1) * (N + 1) = N * (N + 1) + (N + 1) := by rw [Nat.add_mul, Nat.one_mul]
  rw [Nat.add_mul, Nat.one_mul] at h1
  omega
theorem ms_2 (N : Nat) {A x x' y y' : Nat} (h : x' + 1 ≤ x) (hy : y' ≤ N) : A * ((N + 1) * (N + 1)) + x' * (N + 1) + y' < A * ((N + 1) * (N + 1)) + x * (N + 1) + y := by
  have h1 := Nat.mul_le_mul_right (N + 1) h
  rw [Nat.add_mul, Nat.one_mul] at h1
  omega
theorem ms_3 (N : Nat) {A x y y' : Nat} (h : y' < y) : A * ((N + 1) * (N + 1)) + x * (N + 1) + y' < A * ((N + 1) * (N + 1)) + x * (N + 1) + y := by omega
set_option maxHeartbeats 1600000 in
theorem c_Matches (s p : ByteArray) (hs : s.size ≤ maxLen) (hp : p.size ≤ maxLen) (w : World) : Calls Tryz.prog 58 #[.string s, .string p] w fun e w' => e = .returned (.bool (matchB s p)) ∧ Below w.heap.size w w' := by
  unfold maxLen at hs hp
  go_enter Tryz.func58, Tryz.ntmps58
  go_wp2
  go_loopw [5, 6, 7, 8] (fun x5 x6 x7 x8 wr => ∃ (at' place piece n : Nat) (after : Int), x5 = .int .i64 at' ∧ x6 = .int .i64 place ∧ x7 = .int .i64 after ∧ x8 = .int .i64 piece ∧ wr = w.drewN n ∧ at' ≤ s.size ∧ place ≤ p.size ∧ piece ≤ at' ∧ after ≤ place ∧ -1 ≤ after ∧ M.Inv s.data.toList p.data.toList at' place after piece)
    (fun x5 _ x7 x8 _ => (p.size + 1 - (intOf x7 + 1).toNat) * ((s.size + 1) * (s.size + 1)) + (s.size - (intOf x8).toNat) * (s.size + 1) + (s.size - (intOf x5).toNat))
  case atStart => exact ⟨0, 0, 0, 0, -1, rfl, rfl, rfl, rfl, rfl, by omega, by omega, by omega, by omega, by omega, M.inv_start _ _⟩
  case round =>
    obtain ⟨at', place, piece, n, after, rfl, rfl, rfl, rfl, rfl, h1, h2, h3, h4, h5, hI⟩ := hrel
    by_cases ha : at' < s.size
    · have hT := drop_consM s at' ha
      by_cases hpl : place < p.size
      · have hP := drop_consM p place hpl
        by_cases h37 : p[place] = 37
        · have HI := Lib.hid (M.inv_star hI (hP.trans (by rw [h37])))
          clear hI hT hP
          go_wp2
          go_roundw
          case rel => exact ⟨at', place + 1, at', n, (place : Int) + 1, rfl, by go_num, rfl, rfl, rfl, by omega, by omega, by omega, by omega, by omega, HI.out⟩
          case measure => simp only [intOf]; exact ms_1 _ (by omega) (by omega) (by omega)
        · have g1 : ((p[place].toNat : Int) == 37) = false := by simp; intro h; exact h37 (UInt8.toNat_inj.1 (show p[place].toNat = 37 by omega))
          by_cases h95 : p[place] = 95
          · have HI := Lib.hid (M.inv_char hI hT hP h37 (.inl h95))
            clear hI hT hP h37
            go_wp2
            go_quiet (fail)
            go_wp2
            go_roundw
            case rel => exact ⟨at' + 1, place + 1, piece, _, after, by go_num, by go_num, rfl, rfl, rfl, by omega, by omega, by omega, by omega, by omega, HI.out⟩
            case measure => simp only [intOf]; exact ms_3 _ (by omega)
          · have g2 : ((p[place].toNat : Int) == 95) = false := by simp; intro h; exact h95 (UInt8.toNat_inj.1 (show p[place].toNat = 95 by omega))
            by_cases hc : p[place] = s[at']
            · have HI := Lib.hid (M.inv_char hI hT hP h37 (.inr hc))
              have g3 : ((p[place].toNat : Int) == (s[at'].toNat : Int)) = true := by rw [hc]; simp
              clear hI hT hP h37 h95 hc
              go_wp2
              go_quiet (fail)
              go_wp2
              go_roundw
              case rel => exact ⟨at' + 1, place + 1, piece, _, after, by go_num, by go_num, rfl, rfl, rfl, by omega, by omega, by omega, by omega, by omega, HI.out⟩
              case measure => simp only [intOf]; exact ms_3 _ (by omega)
            · have g3 : ((p[place].toNat : Int) == (s[at'].toNat : Int)) = false := by simp; intro h; exact hc (UInt8.toNat_inj.1 (by omega))
              have hM := M.miss_char hT hP h37 h95 hc
              by_cases h0 : 0 ≤ after
              · have HI := Lib.hid (M.inv_back hI (by simpa using ha) hM h0)
                clear hI hT hP h37 h95 hc hM
                go_wp2
                go_quiet (fail)
                go_wp2
                go_roundw
                case rel => exact ⟨piece + 1, after.toNat, piece + 1, _, after, by go_num, by congr; omega, rfl, by go_num, rfl, by omega, by omega, by omega, by omega, by omega, HI.out⟩
                case measure => simp only [intOf]; exact ms_2 _ (by omega) (by omega)
              · have HF := Lib.hid (M.inv_fail hI hM (by omega))
                clear hI hT hP h37 h95 hc hM
                go_wp2
                go_quiet (fail)
                go_wp2
                go_ret
                exact ⟨ret_bool HF.out.symm, below_drewN _ _⟩
      · have hM := M.miss_end (T := s.data.toList) (P := p.data.toList) (at' := at') (place := place) (by simpa using ha) (by simpa using hpl)
        by_cases h0 : 0 ≤ after
        · have HI := Lib.hid (M.inv_back hI (by simpa using ha) hM h0)
          clear hI hT hM
          go_wp2
          go_quiet (fail)
          go_wp2
          go_roundw
          case rel => exact ⟨piece + 1, after.toNat, piece + 1, _, after, by go_num, by congr; omega, rfl, by go_num, rfl, by omega, by omega, by omega, by omega, by omega, HI.out⟩
          case measure => simp only [intOf]; exact ms_2 _ (by omega) (by omega)
        · have HF := Lib.hid (M.inv_fail hI hM (by omega))
          clear hI hT hM
          go_wp2
          go_quiet (fail)
          go_wp2
          go_ret
          exact ⟨ret_bool HF.out.symm, below_drewN _ _⟩
    · have HE := Lib.hid (M.inv_end hI (by simpa using ha))
      clear hI
      go_wp2_with (go_at_call 71; refine (l_TrimLeft _ _).mono ?_; rintro e w' ⟨rfl, rfl⟩)
      go_ret
      exact ⟨ret_bool (by rw [List.take_of_length_le (by simp), trim_all]; exact HE.out.symm), below_drewN _ _⟩
end Go.Proofs.YtdbhencjomnjhaaGreatDoor.V
