/- The program's In, where nothing fails. -/
import Derived.Test.YtdbhencjomnjhaaGreatDoorGal
import Derived.Test.YtdbhencjomnjhaaGreatDoorGae
import Derived.Deep.Cut
namespace Go.Proofs.YtdbhencjomnjhaaGreatDoor.K
open Go.ChangeShapes Go.WideShapes Go.ChangeAt Go.RowKit Go.Proofs.YtdbhencjomnjhaaGreatDoor.V
set_option maxRecDepth 100000 in
set_option maxHeartbeats 4000000 in
theorem c_In_null (a : Option Addr) (n c : Nat) (l : List Rw) (hn : n ≤ 9223372036854775807) (hc : okCol 0 (l.map (·.2)) = true) (w : World) (h : Rows2 w a n l) : Ret 20 #[ov 0 0 ⟨#[]⟩ 0, outV a n c 0] w (enc (inL nul false (l.map fun x => hd x.2))) := by
  have HL := Lib.hid h
  have HX : Hid ((⟨0, 0, ⟨#[]⟩, 0⟩ : Ot).ok = true) := ok_nul
  have HO := Lib.hid hc
  have H1 : Hid (∀ x ∈ l, x.2.length = 1) := by
    intro y hy
    unfold okCol at hc
    rw [Bool.and_eq_true] at hc
    have := List.all_eq_true.1 hc.2 y.2 (List.mem_map.2 ⟨y, hy, rfl⟩)
    simpa using this
  have hE : Hid (errs 0 [(⟨0, 0, ⟨#[]⟩, 0⟩ : Ot), fl 0] = 0) := by show _ = _; rw [errs_two]; rfl
  have hlen := Lib.hid h.one.len
  clear h hc
  go_enter Tryz.func20, Tryz.ntmps20
  go_wp2_with fail
  refine (c_isValid ⟨0, 0, ⟨#[]⟩, 0⟩ _).mono ?_; rintro e w1 ⟨rfl, hbw1⟩; obtain ⟨hcw1, hfw1⟩ := bcell hbw1; have hzw1 := hbw1.size; (try simp at hzw1); have hk0w1 : w.heap.size < w1.heap.size := (by omega); have hk1w1 : w.heap.size + 1 < w1.heap.size := (by omega); have hk2w1 : w.heap.size + 1 + 1 < w1.heap.size := (by omega)
  rw [HX.out]
  have B1 : Below w.heap.size w w1 := by repeat (first | exact Below.refl _ _ | assumption | exact Go.Proofs.YtdbhencjomnjhaaGreatDoor.V.below_drewN _ _ | (refine bel_trans ?_ (Go.Proofs.YtdbhencjomnjhaaGreatDoor.V.below_drewN _ _)) | (refine bel_trans ?_ (by assumption)) | (with_reducible apply bel_alloc) | (with_reducible apply Below.drew) | apply bel_alloc | apply Below.drew | refine bel_set ?_ (by simp; try omega) _)
  go_wp2_with fail
  refine (c_isColumn a n c 0 l hn _ (HL.out.below B1)).mono ?_; rintro e w2 ⟨rfl, hbw2⟩; obtain ⟨hcw2, hfw2⟩ := bcell hbw2; have hzw2 := hbw2.size; (try simp at hzw2); have hk0w2 : w.heap.size < w2.heap.size := (by omega); have hk1w2 : w.heap.size + 1 < w2.heap.size := (by omega); have hk2w2 : w.heap.size + 1 + 1 < w2.heap.size := (by omega)
  rw [HO.out]
  have B2 : Hid (Below w.heap.size w w2) := bel_trans B1 hbw2
  have d0 : w2.cell? ⟨w.heap.size, 0, none⟩ = some (.int .u8 0) := by simp [*, go_sem, World.cell?_alloc_past]
  have d1 : w2.cell? ⟨w.heap.size, 1, none⟩ = some (.int .i64 0) := by simp [*, go_sem, World.cell?_alloc_past]
  have d2 : w2.cell? ⟨w.heap.size, 2, none⟩ = some (.string ⟨#[]⟩) := by simp [*, go_sem, World.cell?_alloc_past]
  have d3 : w2.cell? ⟨w.heap.size, 3, none⟩ = some (.int .i64 0) := by simp [*, go_sem, World.cell?_alloc_past]
  have d4 : w2.cell? ⟨w.heap.size + 1, 1, none⟩ = some (.int .i64 0) := by simp [*, go_sem, World.cell?_alloc_past]
  have d5 : w2.cell? ⟨w.heap.size + 1, 0, none⟩ = some (.slice a n c) := by simp [*, go_sem, World.cell?_alloc_past]
  have HX3 : Hid (Box w2 (w.heap.size + 1 + 1) nul) := by
    constructor <;> simp [*, go_sem, World.cell?_alloc_past, World.frozen?_alloc_past]
  clear hcw1 hfw1 hzw1 hk0w1 hk1w1 hk2w1 hcw2 hfw2 hzw2 hbw2 B1 hbw1
  go_wp2_with fail
  go_region_held3 (fun w' => w'.cell? ⟨w.heap.size, 0, none⟩ = some (.int .u8 0) ∧ w'.cell? ⟨w.heap.size, 1, none⟩ = some (.int .i64 0) ∧ w'.cell? ⟨w.heap.size, 2, none⟩ = some (.string ⟨#[]⟩) ∧ w'.cell? ⟨w.heap.size, 3, none⟩ = some (.int .i64 0) ∧ w'.cell? ⟨w.heap.size + 1, 1, none⟩ = some (.int .i64 0)) (simp [*, go_sem, World.cell?_alloc_past, (show w2.drew.heap.size = w2.heap.size from rfl)])
    (first | (go_at_call 13; refine (c_failing 0 _).mono ?_; rintro e w3 ⟨rfl, hbw3⟩; obtain ⟨hcw3, hfw3⟩ := bcell hbw3; have hzw3 := hbw3.size; (try simp at hzw3); have hk0w3 : w.heap.size < w3.heap.size := (by omega); have hk1w3 : w.heap.size + 1 < w3.heap.size := (by omega); have hk2w3 : w.heap.size + 1 + 1 < w3.heap.size := (by omega)) | (go_at_call 40; refine (c_least _ 2 2 [⟨0, 0, ⟨#[]⟩, 0⟩, fl 0] (by omega) _ (outs_two _ ⟨0, 0, ⟨#[]⟩, 0⟩ (fl 0))).mono ?_; rw [hE.out]; rintro e2 w4 ⟨rfl, hbw4⟩; obtain ⟨hcw4, hfw4⟩ := bcell hbw4; have hzw4 := hbw4.size; (try simp at hzw4); have hk0w4 : w.heap.size < w4.heap.size := (by omega); have hk1w4 : w.heap.size + 1 < w4.heap.size := (by omega); have hk2w4 : w.heap.size + 1 + 1 < w4.heap.size := (by omega)))
  have B4 : Below w2.heap.size w2 w4 := by
    clear B2
    exact by repeat (first | exact Below.refl _ _ | assumption | exact Go.Proofs.YtdbhencjomnjhaaGreatDoor.V.below_drewN _ _ | (refine bel_trans ?_ (Go.Proofs.YtdbhencjomnjhaaGreatDoor.V.below_drewN _ _)) | (refine bel_trans ?_ (by assumption)) | (with_reducible apply bel_alloc) | (with_reducible apply Below.drew) | apply bel_alloc | apply Below.drew | refine bel_set ?_ (by simp; try omega) _)
  have HX4 := Lib.hid (HX3.out.below B4)
  have B4' : Hid (Below w.heap.size w w4) := bel_trans B2.out B4
  have HL4 := Lib.hid (HL.out.below B4'.out)
  have f0 := (B4.cell (p := ⟨w.heap.size, 0, none⟩) hk0w2).trans d0
  have f1 := (B4.cell (p := ⟨w.heap.size, 1, none⟩) hk0w2).trans d1
  have f2 := (B4.cell (p := ⟨w.heap.size, 2, none⟩) hk0w2).trans d2
  have f3 := (B4.cell (p := ⟨w.heap.size, 3, none⟩) hk0w2).trans d3
  have f5 := (B4.cell (p := ⟨w.heap.size + 1, 0, none⟩) hk1w2).trans d5
  clear d0 d1 d2 d3 d4 d5 hcw3 hfw3 hzw3 hbw3 hcw4 hfw4 hzw4 hbw4 HX3 B4 B2
  have HLq := HL4
  have F0 := f0
  have F1 := f1
  have F2 := f2
  have F3 := f3
  have F5 := f5
  go_wp2_with fail
  refine region_far (by kernel_rfl) (by kernel_rfl) ?_
  repeat (go_big_quiet_step ((first | (go_at_call 37; with_reducible exact call_far (c_null _)))))
  refine wpQuiet_nil ?_
  intro wq5 hbq5
  have B5 : Hid (Below w.heap.size w wq5) := bel_trans B4'.out hbq5
  have X5 := Lib.hid (HX4.out.below hbq5)
  have L5 := Lib.hid (HL.out.below B5.out)
  have g50 := (hbq5.cell (p := ⟨w.heap.size, 0, none⟩) hk0w4).trans F0
  have g51 := (hbq5.cell (p := ⟨w.heap.size, 1, none⟩) hk0w4).trans F1
  have g52 := (hbq5.cell (p := ⟨w.heap.size, 2, none⟩) hk0w4).trans F2
  have g53 := (hbq5.cell (p := ⟨w.heap.size, 3, none⟩) hk0w4).trans F3
  have g55 := (hbq5.cell (p := ⟨w.heap.size + 1, 0, none⟩) hk1w4).trans F5
  have hk0wq5 : w.heap.size < wq5.heap.size := Nat.lt_of_lt_of_le hk0w4 hbq5.size
  have hk1wq5 : w.heap.size + 1 < wq5.heap.size := Nat.lt_of_lt_of_le hk1w4 hbq5.size
  have hk2wq5 : w.heap.size + 1 + 1 < wq5.heap.size := Nat.lt_of_lt_of_le hk2w4 hbq5.size
  clear hbq5 F0 F1 F2 F3 F5
  have F0 := g50
  have F1 := g51
  have F2 := g52
  have F3 := g53
  have F5 := g55
  by_cases hz : n = 0
  · have HR : Hid (inL nul false (l.map fun x => hd x.2) = bo false) := by
      show _ = _
      have e : l = [] := List.eq_nil_of_length_eq_zero (by rw [← hlen.out]; exact hz)
      rw [e]; rfl
    subst hz
    go_wp2_with fail
    refine region_far (by kernel_rfl) (by kernel_rfl) ?_
    repeat (go_big_quiet_step ((first | (go_at_call 37; with_reducible exact call_far (c_null _)))))
    refine wpQuiet_nil ?_
    intro wq6 hbq6
    have B6 : Hid (Below w.heap.size w wq6) := bel_trans B5.out hbq6
    have X6 := Lib.hid (X5.out.below hbq6)
    have L6 := Lib.hid (HL.out.below B6.out)
    have g60 := (hbq6.cell (p := ⟨w.heap.size, 0, none⟩) hk0wq5).trans F0
    have g61 := (hbq6.cell (p := ⟨w.heap.size, 1, none⟩) hk0wq5).trans F1
    have g62 := (hbq6.cell (p := ⟨w.heap.size, 2, none⟩) hk0wq5).trans F2
    have g63 := (hbq6.cell (p := ⟨w.heap.size, 3, none⟩) hk0wq5).trans F3
    have g65 := (hbq6.cell (p := ⟨w.heap.size + 1, 0, none⟩) hk1wq5).trans F5
    have hk0wq6 : w.heap.size < wq6.heap.size := Nat.lt_of_lt_of_le hk0wq5 hbq6.size
    have hk1wq6 : w.heap.size + 1 < wq6.heap.size := Nat.lt_of_lt_of_le hk1wq5 hbq6.size
    have hk2wq6 : w.heap.size + 1 + 1 < wq6.heap.size := Nat.lt_of_lt_of_le hk2wq5 hbq6.size
    clear hbq6 F0 F1 F2 F3 F5
    go_wp2_with fail
    refine (c_truth_f _).mono ?_
    rintro e3 w9 ⟨rfl, hb9⟩
    obtain ⟨hx9, p0, p1, p2, p3, q0, q1, q2, q3⟩ := X6.out.below hb9
    have B9 : Hid (Below w.heap.size w w9) := bel_trans B6.out hb9
    clear hb9
    go_wp2
    exact bodyPost_ret (v := ov 3 0 ⟨#[]⟩ 0) (by simp [results, Tryz.results20, go_sem, *]) rfl ⟨ret_v (by rw [HR.out]; try rfl), bel_set (bel_set (bel_set (bel_set B9.out (by simp; omega) _) (by simp; omega) _) (by simp; omega) _) (by simp; omega) _⟩
  · have HR : Hid (inL nul false (l.map fun x => hd x.2) = nul) := by
      show _ = _
      rw [inL_null nul rfl, if_neg]
      intro e
      have := congrArg List.length e
      rw [List.length_map, ← hlen.out] at this
      exact hz this
    have hp : (n : Int) > 0 := by omega
    have hp2 : (0 : Int) < n := by omega
    have hp0 : 0 < n := by omega
    have hp4 : decide ((0 : Int) < n) = true := by simp; omega
    have hp5 : decide ((n : Int) > 0) = true := by simp; omega
    have hp6 : decide (0 < n) = true := by simp; omega
    go_wp2_with fail
    refine region_far (by kernel_rfl) (by kernel_rfl) ?_
    repeat (go_big_quiet_step ((first | (go_at_call 37; with_reducible exact call_far (c_null _)))))
    refine wpQuiet_nil ?_
    intro wq6 hbq6
    have B6 : Hid (Below w.heap.size w wq6) := bel_trans B5.out hbq6
    have X6 := Lib.hid (X5.out.below hbq6)
    have L6 := Lib.hid (HL.out.below B6.out)
    have g60 := (hbq6.cell (p := ⟨w.heap.size, 0, none⟩) hk0wq5).trans F0
    have g61 := (hbq6.cell (p := ⟨w.heap.size, 1, none⟩) hk0wq5).trans F1
    have g62 := (hbq6.cell (p := ⟨w.heap.size, 2, none⟩) hk0wq5).trans F2
    have g63 := (hbq6.cell (p := ⟨w.heap.size, 3, none⟩) hk0wq5).trans F3
    have g65 := (hbq6.cell (p := ⟨w.heap.size + 1, 0, none⟩) hk1wq5).trans F5
    have hk0wq6 : w.heap.size < wq6.heap.size := Nat.lt_of_lt_of_le hk0wq5 hbq6.size
    have hk1wq6 : w.heap.size + 1 < wq6.heap.size := Nat.lt_of_lt_of_le hk1wq5 hbq6.size
    have hk2wq6 : w.heap.size + 1 + 1 < wq6.heap.size := Nat.lt_of_lt_of_le hk2wq5 hbq6.size
    clear hbq6 F0 F1 F2 F3 F5
    go_wp2_with fail
    refine (c_null _).mono ?_
    rintro e3 w9 ⟨rfl, hb9⟩
    obtain ⟨hx9, p0, p1, p2, p3, q0, q1, q2, q3⟩ := X6.out.below hb9
    have B9 : Hid (Below w.heap.size w w9) := bel_trans B6.out hb9
    clear hb9
    go_wp2
    exact bodyPost_ret (v := ov 0 0 ⟨#[]⟩ 0) (by simp [results, Tryz.results20, go_sem, *]) rfl ⟨ret_v (by rw [HR.out]; try rfl), bel_set (bel_set (bel_set (bel_set B9.out (by simp; omega) _) (by simp; omega) _) (by simp; omega) _) (by simp; omega) _⟩

set_option maxRecDepth 100000 in
set_option maxHeartbeats 4000000 in
theorem c_In_some (x : Ot) (he : x.e = 0) (hx : x.ok = true) (hk : ¬ x.k = 0) (a : Option Addr) (n c : Nat) (l : List Rw) (hn : n ≤ 9223372036854775807) (hc : okCol 0 (l.map (·.2)) = true) (w : World) (h : Rows2 w a n l) : Ret 20 #[ov x.k x.n x.s 0, outV a n c 0] w (enc (inL x false (l.map fun x => hd x.2))) := by
  have HL := Lib.hid h
  have HV : Hid (∀ v ∈ l.map fun x => hd x.2, vOk v = true) := by
    intro v hv
    obtain ⟨y, hy, rfl⟩ := List.mem_map.1 hv
    unfold okCol okOut at hc
    rw [if_pos rfl, Bool.and_eq_true] at hc
    have h1 := List.all_eq_true.1 hc.1 y.2 (List.mem_map.2 ⟨y, hy, rfl⟩)
    have h2 := List.all_eq_true.1 hc.2 y.2 (List.mem_map.2 ⟨y, hy, rfl⟩)
    match y.2, h1, h2 with
    | [u], h1, _ => simpa [hd] using h1
  have HI := Lib.hid (in_is he hx HV.out)
  have hnn : isN x = false := by simp [isN, hk]
  rw [hnn, List.length_map, ← h.one.len] at HI
  have HX : Hid ((⟨x.k, x.n, x.s, 0⟩ : Ot).ok = true) := by rw [← he]; exact hx
  have HO := Lib.hid hc
  have H1 : Hid (∀ x ∈ l, x.2.length = 1) := by
    intro y hy
    unfold okCol at hc
    rw [Bool.and_eq_true] at hc
    have := List.all_eq_true.1 hc.2 y.2 (List.mem_map.2 ⟨y, hy, rfl⟩)
    simpa using this
  have hE : Hid (errs 0 [(⟨x.k, x.n, x.s, 0⟩ : Ot), fl 0] = 0) := by show _ = _; rw [errs_two]; rfl
  have hlen := Lib.hid h.one.len
  clear h hc
  go_enter Tryz.func20, Tryz.ntmps20
  go_wp2_with fail
  refine (c_isValid ⟨x.k, x.n, x.s, 0⟩ _).mono ?_; rintro e w1 ⟨rfl, hbw1⟩; obtain ⟨hcw1, hfw1⟩ := bcell hbw1; have hzw1 := hbw1.size; (try simp at hzw1); have hk0w1 : w.heap.size < w1.heap.size := (by omega); have hk1w1 : w.heap.size + 1 < w1.heap.size := (by omega); have hk2w1 : w.heap.size + 1 + 1 < w1.heap.size := (by omega)
  rw [HX.out]
  have B1 : Below w.heap.size w w1 := by repeat (first | exact Below.refl _ _ | assumption | exact Go.Proofs.YtdbhencjomnjhaaGreatDoor.V.below_drewN _ _ | (refine bel_trans ?_ (Go.Proofs.YtdbhencjomnjhaaGreatDoor.V.below_drewN _ _)) | (refine bel_trans ?_ (by assumption)) | (with_reducible apply bel_alloc) | (with_reducible apply Below.drew) | apply bel_alloc | apply Below.drew | refine bel_set ?_ (by simp; try omega) _)
  go_wp2_with fail
  refine (c_isColumn a n c 0 l hn _ (HL.out.below B1)).mono ?_; rintro e w2 ⟨rfl, hbw2⟩; obtain ⟨hcw2, hfw2⟩ := bcell hbw2; have hzw2 := hbw2.size; (try simp at hzw2); have hk0w2 : w.heap.size < w2.heap.size := (by omega); have hk1w2 : w.heap.size + 1 < w2.heap.size := (by omega); have hk2w2 : w.heap.size + 1 + 1 < w2.heap.size := (by omega)
  rw [HO.out]
  have B2 : Hid (Below w.heap.size w w2) := bel_trans B1 hbw2
  have d0 : w2.cell? ⟨w.heap.size, 0, none⟩ = some (.int .u8 x.k) := by simp [*, go_sem, World.cell?_alloc_past]
  have d1 : w2.cell? ⟨w.heap.size, 1, none⟩ = some (.int .i64 x.n) := by simp [*, go_sem, World.cell?_alloc_past]
  have d2 : w2.cell? ⟨w.heap.size, 2, none⟩ = some (.string x.s) := by simp [*, go_sem, World.cell?_alloc_past]
  have d3 : w2.cell? ⟨w.heap.size, 3, none⟩ = some (.int .i64 0) := by simp [*, go_sem, World.cell?_alloc_past]
  have d4 : w2.cell? ⟨w.heap.size + 1, 1, none⟩ = some (.int .i64 0) := by simp [*, go_sem, World.cell?_alloc_past]
  have d5 : w2.cell? ⟨w.heap.size + 1, 0, none⟩ = some (.slice a n c) := by simp [*, go_sem, World.cell?_alloc_past]
  have HX3 : Hid (Box w2 (w.heap.size + 1 + 1) nul) := by
    constructor <;> simp [*, go_sem, World.cell?_alloc_past, World.frozen?_alloc_past]
  clear hcw1 hfw1 hzw1 hk0w1 hk1w1 hk2w1 hcw2 hfw2 hzw2 hbw2 B1 hbw1
  go_wp2_with fail
  go_region_held3 (fun w' => w'.cell? ⟨w.heap.size, 0, none⟩ = some (.int .u8 x.k) ∧ w'.cell? ⟨w.heap.size, 1, none⟩ = some (.int .i64 x.n) ∧ w'.cell? ⟨w.heap.size, 2, none⟩ = some (.string x.s) ∧ w'.cell? ⟨w.heap.size, 3, none⟩ = some (.int .i64 0) ∧ w'.cell? ⟨w.heap.size + 1, 1, none⟩ = some (.int .i64 0)) (simp [*, go_sem, World.cell?_alloc_past, (show w2.drew.heap.size = w2.heap.size from rfl)])
    (first | (go_at_call 13; refine (c_failing 0 _).mono ?_; rintro e w3 ⟨rfl, hbw3⟩; obtain ⟨hcw3, hfw3⟩ := bcell hbw3; have hzw3 := hbw3.size; (try simp at hzw3); have hk0w3 : w.heap.size < w3.heap.size := (by omega); have hk1w3 : w.heap.size + 1 < w3.heap.size := (by omega); have hk2w3 : w.heap.size + 1 + 1 < w3.heap.size := (by omega)) | (go_at_call 40; refine (c_least _ 2 2 [⟨x.k, x.n, x.s, 0⟩, fl 0] (by omega) _ (outs_two _ ⟨x.k, x.n, x.s, 0⟩ (fl 0))).mono ?_; rw [hE.out]; rintro e2 w4 ⟨rfl, hbw4⟩; obtain ⟨hcw4, hfw4⟩ := bcell hbw4; have hzw4 := hbw4.size; (try simp at hzw4); have hk0w4 : w.heap.size < w4.heap.size := (by omega); have hk1w4 : w.heap.size + 1 < w4.heap.size := (by omega); have hk2w4 : w.heap.size + 1 + 1 < w4.heap.size := (by omega)))
  have B4 : Below w2.heap.size w2 w4 := by
    clear B2
    exact by repeat (first | exact Below.refl _ _ | assumption | exact Go.Proofs.YtdbhencjomnjhaaGreatDoor.V.below_drewN _ _ | (refine bel_trans ?_ (Go.Proofs.YtdbhencjomnjhaaGreatDoor.V.below_drewN _ _)) | (refine bel_trans ?_ (by assumption)) | (with_reducible apply bel_alloc) | (with_reducible apply Below.drew) | apply bel_alloc | apply Below.drew | refine bel_set ?_ (by simp; try omega) _)
  have HX4 := Lib.hid (HX3.out.below B4)
  have B4' : Hid (Below w.heap.size w w4) := bel_trans B2.out B4
  have HL4 := Lib.hid (HL.out.below B4'.out)
  have f0 := (B4.cell (p := ⟨w.heap.size, 0, none⟩) hk0w2).trans d0
  have f1 := (B4.cell (p := ⟨w.heap.size, 1, none⟩) hk0w2).trans d1
  have f2 := (B4.cell (p := ⟨w.heap.size, 2, none⟩) hk0w2).trans d2
  have f3 := (B4.cell (p := ⟨w.heap.size, 3, none⟩) hk0w2).trans d3
  have f5 := (B4.cell (p := ⟨w.heap.size + 1, 0, none⟩) hk1w2).trans d5
  clear d0 d1 d2 d3 d4 d5 hcw3 hfw3 hzw3 hbw3 hcw4 hfw4 hzw4 hbw4 HX3 B4 B2
  have HLq := HL4
  clear he hx hnn
  generalize hr1 : (l.map fun x => hd x.2).any (fun u => sameV u (x.k, x.n, x.s)) = r1 at HI
  have hr1 := Lib.hid hr1
  have F0 := f0
  have F1 := f1
  have F2 := f2
  have F3 := f3
  have F5 := f5
  go_wp2_with fail
  refine region_far (by kernel_rfl) (by kernel_rfl) ?_
  repeat (go_big_quiet_step ((first | (go_at_call 37; with_reducible exact call_far (c_null _)) | (go_at_call 46; with_reducible exact call_far (c_has ((x.k, x.n, x.s)) a n c 0 l hn (w.heap.size + 1) _ (HLq.out.below (below_far _ _)) H1.out (((below_far _ _).cell (p := ⟨w.heap.size + 1, 0, none⟩) hk1w4).trans f5))))))
  refine wpQuiet_nil ?_
  rw [hr1.out]
  intro wq5 hbq5
  have B5 : Hid (Below w.heap.size w wq5) := bel_trans B4'.out hbq5
  have X5 := Lib.hid (HX4.out.below hbq5)
  have L5 := Lib.hid (HL.out.below B5.out)
  have g50 := (hbq5.cell (p := ⟨w.heap.size, 0, none⟩) hk0w4).trans F0
  have g51 := (hbq5.cell (p := ⟨w.heap.size, 1, none⟩) hk0w4).trans F1
  have g52 := (hbq5.cell (p := ⟨w.heap.size, 2, none⟩) hk0w4).trans F2
  have g53 := (hbq5.cell (p := ⟨w.heap.size, 3, none⟩) hk0w4).trans F3
  have g55 := (hbq5.cell (p := ⟨w.heap.size + 1, 0, none⟩) hk1w4).trans F5
  have hk0wq5 : w.heap.size < wq5.heap.size := Nat.lt_of_lt_of_le hk0w4 hbq5.size
  have hk1wq5 : w.heap.size + 1 < wq5.heap.size := Nat.lt_of_lt_of_le hk1w4 hbq5.size
  have hk2wq5 : w.heap.size + 1 + 1 < wq5.heap.size := Nat.lt_of_lt_of_le hk2w4 hbq5.size
  clear hbq5 F0 F1 F2 F3 F5
  have F0 := g50
  have F1 := g51
  have F2 := g52
  have F3 := g53
  have F5 := g55
  cases r1 with
  | true =>
    have HR : Hid (inL x false (l.map fun x => hd x.2) = bo true) := by show _ = _; rw [HI.out]; rfl
    go_wp2_with fail
    refine (c_truth_t _).mono ?_
    rintro e3 w9 ⟨rfl, hb9⟩
    obtain ⟨hx9, p0, p1, p2, p3, q0, q1, q2, q3⟩ := X5.out.below hb9
    have B9 : Hid (Below w.heap.size w w9) := bel_trans B5.out hb9
    clear hb9
    go_wp2
    exact bodyPost_ret (v := ov 3 1 ⟨#[]⟩ 0) (by simp [results, Tryz.results20, go_sem, *]) rfl ⟨ret_v (by rw [HR.out]; try rfl), bel_set (bel_set (bel_set (bel_set B9.out (by simp; omega) _) (by simp; omega) _) (by simp; omega) _) (by simp; omega) _⟩
  | false =>
    by_cases hz : n = 0
    · have HR : Hid (inL x false (l.map fun x => hd x.2) = bo false) := by show _ = _; rw [HI.out, hz]; rfl
      subst hz
      clear HI
      go_wp2_with fail
      refine region_far (by kernel_rfl) (by kernel_rfl) ?_
      repeat (go_big_quiet_step ((first | (go_at_call 37; with_reducible exact call_far (c_null _)))))
      refine wpQuiet_nil ?_
      intro wq6 hbq6
      have B6 : Hid (Below w.heap.size w wq6) := bel_trans B5.out hbq6
      have X6 := Lib.hid (X5.out.below hbq6)
      have L6 := Lib.hid (HL.out.below B6.out)
      have g60 := (hbq6.cell (p := ⟨w.heap.size, 0, none⟩) hk0wq5).trans F0
      have g61 := (hbq6.cell (p := ⟨w.heap.size, 1, none⟩) hk0wq5).trans F1
      have g62 := (hbq6.cell (p := ⟨w.heap.size, 2, none⟩) hk0wq5).trans F2
      have g63 := (hbq6.cell (p := ⟨w.heap.size, 3, none⟩) hk0wq5).trans F3
      have g65 := (hbq6.cell (p := ⟨w.heap.size + 1, 0, none⟩) hk1wq5).trans F5
      have hk0wq6 : w.heap.size < wq6.heap.size := Nat.lt_of_lt_of_le hk0wq5 hbq6.size
      have hk1wq6 : w.heap.size + 1 < wq6.heap.size := Nat.lt_of_lt_of_le hk1wq5 hbq6.size
      have hk2wq6 : w.heap.size + 1 + 1 < wq6.heap.size := Nat.lt_of_lt_of_le hk2wq5 hbq6.size
      clear hbq6 F0 F1 F2 F3 F5
      go_wp2_with fail
      refine (c_truth_f _).mono ?_
      rintro e3 w9 ⟨rfl, hb9⟩
      obtain ⟨hx9, p0, p1, p2, p3, q0, q1, q2, q3⟩ := X6.out.below hb9
      have B9 : Hid (Below w.heap.size w w9) := bel_trans B6.out hb9
      clear hb9
      go_wp2
      exact bodyPost_ret (v := ov 3 0 ⟨#[]⟩ 0) (by simp [results, Tryz.results20, go_sem, *]) rfl ⟨ret_v (by rw [HR.out]; try rfl), bel_set (bel_set (bel_set (bel_set B9.out (by simp; omega) _) (by simp; omega) _) (by simp; omega) _) (by simp; omega) _⟩
    · have hp : (n : Int) > 0 := by omega
      have hp2 : (0 : Int) < n := by omega
      have hp0 : 0 < n := by omega
      have hp4 : decide ((0 : Int) < n) = true := by simp; omega
      have hp5 : decide ((n : Int) > 0) = true := by simp; omega
      have hp3 : decide (0 < n) = true := by simp; omega
      generalize hr2 : (l.map fun x => hd x.2).any (fun u => sameV u (0, 0, ⟨#[]⟩)) = r2 at HI
      have hr2 := Lib.hid hr2
      have HR0 : Hid (inL x false (l.map fun x => hd x.2) = if r2 then nul else bo false) := by show _ = _; rw [HI.out, hp3]; rfl
      clear HI HLq
      have HLq := L5
      have hfld : ∀ a b c d w, (Instr.field 31 (.agg #[a, b, c, d]) 0).run Tryz.prog w = .ok (.agg #[a, b, c]) w := fun _ _ _ _ _ => by kernel_rfl
      go_wp2_with fail
      refine region_far (by kernel_rfl) (by kernel_rfl) ?_
      repeat (go_big_quiet_step ((first | (go_at_call 37; with_reducible exact call_far (c_null _)) | (go_at_call 46; with_reducible exact call_far (c_has ((0, 0, ⟨#[]⟩)) a n c 0 l hn (w.heap.size + 1) _ (HLq.out.below (below_far _ _)) H1.out (((below_far _ _).cell (p := ⟨w.heap.size + 1, 0, none⟩) hk1wq5).trans g55))))))
      refine wpQuiet_nil ?_
      rw [hr2.out]
      intro wq6 hbq6
      have B6 : Hid (Below w.heap.size w wq6) := bel_trans B5.out hbq6
      have X6 := Lib.hid (X5.out.below hbq6)
      have L6 := Lib.hid (HL.out.below B6.out)
      have g60 := (hbq6.cell (p := ⟨w.heap.size, 0, none⟩) hk0wq5).trans F0
      have g61 := (hbq6.cell (p := ⟨w.heap.size, 1, none⟩) hk0wq5).trans F1
      have g62 := (hbq6.cell (p := ⟨w.heap.size, 2, none⟩) hk0wq5).trans F2
      have g63 := (hbq6.cell (p := ⟨w.heap.size, 3, none⟩) hk0wq5).trans F3
      have g65 := (hbq6.cell (p := ⟨w.heap.size + 1, 0, none⟩) hk1wq5).trans F5
      have hk0wq6 : w.heap.size < wq6.heap.size := Nat.lt_of_lt_of_le hk0wq5 hbq6.size
      have hk1wq6 : w.heap.size + 1 < wq6.heap.size := Nat.lt_of_lt_of_le hk1wq5 hbq6.size
      have hk2wq6 : w.heap.size + 1 + 1 < wq6.heap.size := Nat.lt_of_lt_of_le hk2wq5 hbq6.size
      clear hbq6 F0 F1 F2 F3 F5
      cases r2 with
      | true =>
        have HR : Hid (inL x false (l.map fun x => hd x.2) = nul) := HR0.out
        go_wp2_with fail
        refine (c_null _).mono ?_
        rintro e3 w9 ⟨rfl, hb9⟩
        obtain ⟨hx9, p0, p1, p2, p3, q0, q1, q2, q3⟩ := X6.out.below hb9
        have B9 : Hid (Below w.heap.size w w9) := bel_trans B6.out hb9
        clear hb9
        go_wp2
        exact bodyPost_ret (v := ov 0 0 ⟨#[]⟩ 0) (by simp [results, Tryz.results20, go_sem, *]) rfl ⟨ret_v (by rw [HR.out]; try rfl), bel_set (bel_set (bel_set (bel_set B9.out (by simp; omega) _) (by simp; omega) _) (by simp; omega) _) (by simp; omega) _⟩
      | false =>
        have HR : Hid (inL x false (l.map fun x => hd x.2) = bo false) := HR0.out
        go_wp2_with fail
        refine (c_truth_f _).mono ?_
        rintro e3 w9 ⟨rfl, hb9⟩
        obtain ⟨hx9, p0, p1, p2, p3, q0, q1, q2, q3⟩ := X6.out.below hb9
        have B9 : Hid (Below w.heap.size w w9) := bel_trans B6.out hb9
        clear hb9
        go_wp2
        exact bodyPost_ret (v := ov 3 0 ⟨#[]⟩ 0) (by simp [results, Tryz.results20, go_sem, *]) rfl ⟨ret_v (by rw [HR.out]; try rfl), bel_set (bel_set (bel_set (bel_set B9.out (by simp; omega) _) (by simp; omega) _) (by simp; omega) _) (by simp; omega) _⟩

theorem c_In (x : Ot) (a : Option Addr) (n c : Nat) (e : Int) (l : List Rw) (hn : n ≤ 9223372036854775807) (w : World) (h : Rows2 w a n l) : Ret 20 #[enc x, outV a n c e] w (enc (inO x e (l.map (·.2)))) := by
  unfold inO
  cases hc : x.ok && okCol e (l.map (·.2)) with
  | false => exact c_In_no x a n c e l hn hc w h
  | true =>
    have hc2 := hc
    rw [Bool.and_eq_true] at hc2
    by_cases he : lst x.e e = 0
    · rw [if_pos rfl, if_neg (by simpa using he), ← heads]
      have hx := hc2.1
      have hee : x.e = 0 ∧ e = 0 := by
        unfold lst at he
        have h1 : x.e = 0 ∨ isErr x.e = true := by
          by_cases h0 : x.e = 0
          · exact .inl h0
          · exact .inr (ok_fails hx h0).1
        have h2 : e = 0 ∨ isErr e = true := by
          by_cases h0 : e = 0
          · exact .inl h0
          · have := hc2.2
            unfold okCol okOut at this
            rw [if_neg h0] at this
            simp at this
            exact .inr this.1.1
        have h3 : x.e = 0 ∨ x.e = 3 ∨ x.e = 4 ∨ x.e = 5 ∨ x.e = 6 := h1.imp id err_cases
        have h4 : e = 0 ∨ e = 3 ∨ e = 4 ∨ e = 5 ∨ e = 6 := h2.imp id err_cases
        split at he <;> omega
      obtain ⟨he1, rfl⟩ := hee
      by_cases hk : x.k = 0
      · have : x = nul := ok_null hx (by simp [isN, he1, hk])
        subst this
        exact c_In_null a n c l hn hc2.2 w h
      · obtain ⟨xk, xn, xs, xe⟩ := x
        simp only at he1
        subst he1
        exact c_In_some ⟨xk, xn, xs, 0⟩ rfl hx hk a n c l hn hc2.2 w h
    · rw [if_pos rfl, if_pos he]
      exact c_In_err x a n c e l hn hc2.1 hc2.2 he w h
end Go.Proofs.YtdbhencjomnjhaaGreatDoor.K
namespace Go.Proofs.YtdbhencjomnjhaaGreatDoor.K
open Go.ChangeShapes Go.WideShapes Go.ChangeAt Go.RowKit Go.Proofs.YtdbhencjomnjhaaGreatDoor.V
theorem a_same3 (w : World) : Ret 21 #[ov 0 0 ⟨#[]⟩ 3, ov 0 0 ⟨#[]⟩ 3] w (.bool true) := by
  have h := r_Same5 (fl 3) (fl 3) w
  rwa [show sameO (fl 3) (fl 3) = true by decide +kernel] at h
theorem a_same0 (w : World) : Ret 21 #[ov 0 0 ⟨#[]⟩ 0, ov 0 0 ⟨#[]⟩ 0] w (.bool true) := by
  have h := r_Same5 nul nul w
  rwa [show sameO nul nul = true by decide +kernel] at h
theorem a_sameT (w : World) : Ret 21 #[ov 3 1 ⟨#[]⟩ 0, ov 3 1 ⟨#[]⟩ 0] w (.bool true) := by
  have h := r_Same5 (bo true) (bo true) w
  rwa [show sameO (bo true) (bo true) = true by decide +kernel] at h
theorem a_sameF (w : World) : Ret 21 #[ov 3 0 ⟨#[]⟩ 0, ov 3 0 ⟨#[]⟩ 0] w (.bool true) := by
  have h := r_Same5 (bo false) (bo false) w
  rwa [show sameO (bo false) (bo false) = true by decide +kernel] at h
theorem a_T (w : World) : Ret 19 #[.bool true] w (ov 3 1 ⟨#[]⟩ 0) := r_Bool5 true w
theorem a_F (w : World) : Ret 19 #[.bool false] w (ov 3 0 ⟨#[]⟩ 0) := r_Bool5 false w
abbrev two8 (W : World) (x y : Ot) : World := W.alloc (.cells #[.int .u8 x.k, .int .i64 x.n, .string x.s, .int .i64 x.e, .int .u8 y.k, .int .i64 y.n, .string y.s, .int .i64 y.e] 31)
theorem a_and1 (b : Nat) (W : World) (hb : b = W.heap.size) : Ret 5 #[.int .u8 23, .slice (some ⟨b, 0, none⟩) 2 2] (W.alloc (.cells #[.int .u8 3, .int .i64 1, .string ⟨#[]⟩, .int .i64 0, .int .u8 0, .int .i64 0, .string ⟨#[]⟩, .int .i64 3] 31)) (ov 0 0 ⟨#[]⟩ 3) := by
  subst hb
  have h := c_Node_and (some ⟨W.heap.size, 0, none⟩) 2 2 [bo true, fl 3] (by omega) (by decide +kernel) _ (outs_two W (bo true) (fl 3))
  rwa [show node 23 [bo true, fl 3] = fl 3 by rw [node_and (by decide +kernel)]; rfl] at h
theorem a_and1' (b : Nat) (W : World) (X : Obj) (hb : b = W.heap.size) : Ret 5 #[.int .u8 23, .slice (some ⟨b, 0, none⟩) 2 2] ((W.alloc (.cells #[.int .u8 3, .int .i64 1, .string ⟨#[]⟩, .int .i64 0, .int .u8 0, .int .i64 0, .string ⟨#[]⟩, .int .i64 3] 31)).alloc X) (ov 0 0 ⟨#[]⟩ 3) := by
  subst hb
  have h := c_Node_and (some ⟨W.heap.size, 0, none⟩) 2 2 [bo true, fl 3] (by omega) (by decide +kernel) _ ((outs_two W (bo true) (fl 3)).below (bel_alloc (Below.refl _ _) X))
  rwa [show node 23 [bo true, fl 3] = fl 3 by rw [node_and (by decide +kernel)]; rfl] at h
theorem a_and2 (b : Nat) (W : World) (hb : b = W.heap.size) : Ret 5 #[.int .u8 23, .slice (some ⟨b, 0, none⟩) 2 2] (W.alloc (.cells #[.int .u8 0, .int .i64 0, .string ⟨#[]⟩, .int .i64 3, .int .u8 0, .int .i64 0, .string ⟨#[]⟩, .int .i64 0] 31)) (ov 0 0 ⟨#[]⟩ 0) := by
  subst hb
  have h := c_Node_and (some ⟨W.heap.size, 0, none⟩) 2 2 [fl 3, nul] (by omega) (by decide +kernel) _ (outs_two W (fl 3) nul)
  rwa [show node 23 [fl 3, nul] = nul by rw [node_and (by decide +kernel)]; rfl] at h
theorem a_or (b : Nat) (W : World) (hb : b = W.heap.size) : Ret 5 #[.int .u8 24, .slice (some ⟨b, 0, none⟩) 2 2] (W.alloc (.cells #[.int .u8 0, .int .i64 0, .string ⟨#[]⟩, .int .i64 3, .int .u8 3, .int .i64 1, .string ⟨#[]⟩, .int .i64 0] 31)) (ov 3 1 ⟨#[]⟩ 0) := by
  subst hb
  have h := c_Node_or (some ⟨W.heap.size, 0, none⟩) 2 2 [fl 3, bo true] (by omega) (by decide +kernel) _ (outs_two W (fl 3) (bo true))
  rwa [show node 24 [fl 3, bo true] = bo true by rw [node_or (by decide +kernel)]; rfl] at h
theorem a_or' (b : Nat) (W : World) (X : Obj) (hb : b = W.heap.size) : Ret 5 #[.int .u8 24, .slice (some ⟨b, 0, none⟩) 2 2] ((W.alloc (.cells #[.int .u8 0, .int .i64 0, .string ⟨#[]⟩, .int .i64 3, .int .u8 3, .int .i64 1, .string ⟨#[]⟩, .int .i64 0] 31)).alloc X) (ov 3 1 ⟨#[]⟩ 0) := by
  subst hb
  have h := c_Node_or (some ⟨W.heap.size, 0, none⟩) 2 2 [fl 3, bo true] (by omega) (by decide +kernel) _ ((outs_two W (fl 3) (bo true)).below (bel_alloc (Below.refl _ _) X))
  rwa [show node 24 [fl 3, bo true] = bo true by rw [node_or (by decide +kernel)]; rfl] at h
theorem a_in (w : World) : Ret 20 #[ov 0 0 ⟨#[]⟩ 0, .agg #[.slice none 0 0, .int .i64 0]] w (ov 3 0 ⟨#[]⟩ 0) :=
  c_In_null none 0 0 [] (by omega) (by decide +kernel) w ⟨⟨rfl, fun _ h => absurd h (Nat.not_lt_zero _)⟩, fun _ h => by cases h⟩
theorem a_kind (b : Nat) (W : World) (hb : b = W.heap.size) : Ret 7 #[.int .u8 25, .slice (some ⟨b, 0, none⟩) 3 3] (W.alloc (.cells #[.int .u8 3, .int .u8 0, .int .u8 2] 26)) (.tuple #[.int .u8 2, .int .i64 0]) := by
  subst hb
  have h := c_Kind 25 (some ⟨W.heap.size, 0, none⟩) 3 3 [3, 0, 2] (by omega) (by omega) (by omega) (W.alloc (.cells #[.int .u8 3, .int .u8 0, .int .u8 2] 26)) ⟨rfl, fun k hk => by
    have : k = 0 ∨ k = 1 ∨ k = 2 := by omega
    rcases this with rfl | rfl | rfl
    · exact ⟨_, 0, 3, rfl, rfl, by simp, by simp [go_sem]⟩
    · exact ⟨_, 0, 0, rfl, rfl, by simp, by simp [go_sem]⟩
    · exact ⟨_, 0, 2, rfl, rfl, by simp, by simp [go_sem]⟩⟩
  rwa [show kV (kind 25 [3, 0, 2]) = .tuple #[.int .u8 2, .int .i64 0] from rfl] at h
/-- A box of an out behind one more. -/
theorem box_after {W W' : World} {b : Nat} {o : Ot} (h : Box W b o) (hb : Below W.heap.size W W') : Box W' b o := h.below hb
set_option maxRecDepth 100000 in
set_option maxHeartbeats 8000000 in
theorem awake (w : World) : Ret 6 #[] w (.bool true) := by
  go_enter Tryz.func6, Tryz.ntmps6
  go_upto_region 2 with fail
  go_cut [3] from 9 (fun s3 wc => ∃ b3, s3 = .pointer (some ⟨b3, 0, none⟩) ∧ Hid (Box wc w.heap.size (fl 3)) ∧ Hid (Box wc (w.heap.size + 1) nul) ∧ Hid (Box wc b3 (fl 3)) ∧ Hid (w.heap.size + 2 ≤ b3) ∧ Hid (Below w.heap.size w wc))
  case first =>
    go_region_held3 (fun w' => w'.cell? ⟨w.heap.size, 0, none⟩ = some (.int .u8 0) ∧ w'.cell? ⟨w.heap.size, 1, none⟩ = some (.int .i64 0) ∧ w'.cell? ⟨w.heap.size, 2, none⟩ = some (.string ⟨#[]⟩) ∧ w'.cell? ⟨w.heap.size, 3, none⟩ = some (.int .i64 3)) (simp [*, go_sem, World.cell?_alloc_past])
      (first | (go_at_call 19; refine (a_T _).mono ?_; rintro e w1 ⟨rfl, hbw1⟩; obtain ⟨hcw1, hfw1⟩ := bcell hbw1; have hzw1 := hbw1.size; (try simp at hzw1); have h00w1 : w.heap.size < w1.heap.size := (by omega); have h10w1 : w.heap.size + 1 < w1.heap.size := (by omega); have h01w1 : w.heap.size < w1.heap.size + 1 := (by omega); have h11w1 : w.heap.size + 1 < w1.heap.size + 1 := (by omega); have h21w1 : w.heap.size + 1 + 1 < w1.heap.size + 1 := (by omega); have h02w1 : w.heap.size < w1.heap.size + 1 + 1 := (by omega); have h12w1 : w.heap.size + 1 < w1.heap.size + 1 + 1 := (by omega); have h22w1 : w.heap.size + 1 + 1 < w1.heap.size + 1 + 1 := (by omega); have h3w1 : w1.heap.size < w1.heap.size + 1 + 1 := (by omega); (try (rcases Nat.lt_or_ge (w.heap.size + 1 + 1) w1.heap.size with h20w1 | h20w1; rotate_left; (exfalso; omega)))) | (go_at_call 5; refine (a_and1 _ _ (by simp)).mono ?_; rintro e w2 ⟨rfl, hbw2⟩; obtain ⟨hcw2, hfw2⟩ := bcell hbw2; have hzw2 := hbw2.size; (try simp at hzw2); have h00w2 : w.heap.size < w2.heap.size := (by omega); have h10w2 : w.heap.size + 1 < w2.heap.size := (by omega); have h01w2 : w.heap.size < w2.heap.size + 1 := (by omega); have h11w2 : w.heap.size + 1 < w2.heap.size + 1 := (by omega); have h21w2 : w.heap.size + 1 + 1 < w2.heap.size + 1 := (by omega); have h02w2 : w.heap.size < w2.heap.size + 1 + 1 := (by omega); have h12w2 : w.heap.size + 1 < w2.heap.size + 1 + 1 := (by omega); have h22w2 : w.heap.size + 1 + 1 < w2.heap.size + 1 + 1 := (by omega); have h3w2 : w2.heap.size < w2.heap.size + 1 + 1 := (by omega); (try (rcases Nat.lt_or_ge (w.heap.size + 1 + 1) w2.heap.size with h20w2 | h20w2; rotate_left; (exfalso; omega)))) | (go_at_call 5; refine (a_and1' _ _ _ (by simp)).mono ?_; rintro e w2 ⟨rfl, hbw2⟩; obtain ⟨hcw2, hfw2⟩ := bcell hbw2; have hzw2 := hbw2.size; (try simp at hzw2); have h00w2 : w.heap.size < w2.heap.size := (by omega); have h10w2 : w.heap.size + 1 < w2.heap.size := (by omega); have h01w2 : w.heap.size < w2.heap.size + 1 := (by omega); have h11w2 : w.heap.size + 1 < w2.heap.size + 1 := (by omega); have h21w2 : w.heap.size + 1 + 1 < w2.heap.size + 1 := (by omega); have h02w2 : w.heap.size < w2.heap.size + 1 + 1 := (by omega); have h12w2 : w.heap.size + 1 < w2.heap.size + 1 + 1 := (by omega); have h22w2 : w.heap.size + 1 + 1 < w2.heap.size + 1 + 1 := (by omega); have h3w2 : w2.heap.size < w2.heap.size + 1 + 1 := (by omega); (try (rcases Nat.lt_or_ge (w.heap.size + 1 + 1) w2.heap.size with h20w2 | h20w2; rotate_left; (exfalso; omega)))))
    all_goals
      have n1 : ¬ w.heap.size = w1.heap.size := by omega
      have n2 : ¬ w.heap.size = w1.heap.size + 1 := by omega
      have n3 : ¬ w.heap.size + 1 = w1.heap.size := by omega
      have n4 : ¬ w.heap.size + 1 = w1.heap.size + 1 := by omega
      have n5 : ¬ w1.heap.size = w.heap.size := by omega
      have n6 : ¬ w1.heap.size + 1 = w.heap.size := by omega
      have n7 : ¬ w1.heap.size = w.heap.size + 1 := by omega
      have n8 : w.heap.size < w2.heap.size := by omega
      have n9 : w.heap.size + 1 < w2.heap.size := by omega
      have n10 : w1.heap.size ≤ w2.heap.size := by omega
      go_wp2
      go_meet
      refine ⟨_, rfl, ?_, ?_, ?_, ?_, ?_⟩
      · constructor <;> first | (simp [*, go_sem, World.cell?_alloc_past, World.frozen?_alloc_past]; done) | (simp; omega)
      · constructor <;> first | (simp [*, go_sem, World.cell?_alloc_past, World.frozen?_alloc_past]; done) | (simp; omega)
      · constructor <;> first | (simp [*, go_sem, World.cell?_alloc_past, World.frozen?_alloc_past]; done) | (simp; omega)
      · show _ ≤ _; omega
      · show Below _ _ _
        repeat (first | exact Below.refl _ _ | (refine bel_trans ?_ (by assumption)) | (with_reducible apply bel_alloc) | (with_reducible apply Below.drew) | apply bel_alloc | apply Below.drew | refine bel_set ?_ (by simp; try omega) _)
  case rest =>
    obtain ⟨b3, rfl, X1, X2, X3, H3, B⟩ := hcut
    go_upto_region 3 with fail
    go_cut [4] from 9 (fun s4 wd => ∃ b4, s4 = .pointer (some ⟨b4, 0, none⟩) ∧ Hid (Box wd w.heap.size (fl 3)) ∧ Hid (Box wd (w.heap.size + 1) nul) ∧ Hid (Box wd b3 (fl 3)) ∧ Hid (Box wd b4 nul) ∧ Hid (w.heap.size + 2 ≤ b3) ∧ Hid (Below w.heap.size w wd))
    case first =>
      obtain ⟨h1, c10, c11, c12, c13, -, -, -, -⟩ := X1.out
      obtain ⟨h2, c20, c21, c22, c23, -, -, -, -⟩ := X2.out
      go_wp2_with (go_at_call 5; refine (a_and2 _ _ rfl).mono ?_; rintro e w1 ⟨rfl, hb1⟩)
      have B1 : Below wc.heap.size wc (w1.alloc (.cells #[.int .u8 0, .int .i64 0, .string ⟨#[]⟩, .int .i64 0] 31)) := bel_alloc (bel_trans (bel_alloc (Below.refl _ _) _) hb1) _
      go_meet
      exact ⟨_, rfl, X1.out.below B1, X2.out.below B1, X3.out.below B1, Box.new w1 nul, H3.out, bel_trans B.out B1⟩
    case rest =>
      obtain ⟨b4, rfl, Y1, Y2, Y3, Y4, H3, B⟩ := hcut
      go_upto_region 4 with fail
      go_cut [5] from 9 (fun s5 we => ∃ b5, s5 = .pointer (some ⟨b5, 0, none⟩) ∧ Hid (Box we w.heap.size (fl 3)) ∧ Hid (Box we (w.heap.size + 1) nul) ∧ Hid (Box we b3 (fl 3)) ∧ Hid (Box we b4 nul) ∧ Hid (Box we b5 (bo true)) ∧ Hid (Below w.heap.size w we))
      case first =>
        obtain ⟨h1, c10, c11, c12, c13, -, -, -, -⟩ := Y1.out
        have h01 : w.heap.size < wc.heap.size + 1 := by omega
        have h02 : w.heap.size < wc.heap.size + 1 + 1 := by omega
        go_region_held3 (fun w' => w'.cell? ⟨w.heap.size, 0, none⟩ = some (.int .u8 0) ∧ w'.cell? ⟨w.heap.size, 1, none⟩ = some (.int .i64 0) ∧ w'.cell? ⟨w.heap.size, 2, none⟩ = some (.string ⟨#[]⟩) ∧ w'.cell? ⟨w.heap.size, 3, none⟩ = some (.int .i64 3)) (simp [*, go_sem, World.cell?_alloc_past, (show wc.drew.heap.size = wc.heap.size from rfl)])
          (first | (go_at_call 19; refine (a_T _).mono ?_; rintro e w1 ⟨rfl, hbw1⟩; obtain ⟨hcw1, hfw1⟩ := bcell hbw1; have hzw1 := hbw1.size; (try simp at hzw1); have h00w1 : w.heap.size < w1.heap.size := (by omega); have h01w1 : w.heap.size < w1.heap.size + 1 := (by omega); have h11w1 : wc.heap.size < w1.heap.size + 1 := (by omega); have h02w1 : w.heap.size < w1.heap.size + 1 + 1 := (by omega); have h12w1 : wc.heap.size < w1.heap.size + 1 + 1 := (by omega); have h3w1 : w1.heap.size < w1.heap.size + 1 + 1 := (by omega); (try (rcases Nat.lt_or_ge wc.heap.size w1.heap.size with h20w1 | h20w1; rotate_left; (exfalso; omega)))) | (go_at_call 5; refine (a_or _ _ (by simp)).mono ?_; rintro e w2 ⟨rfl, hbw2⟩; obtain ⟨hcw2, hfw2⟩ := bcell hbw2; have hzw2 := hbw2.size; (try simp at hzw2); have h00w2 : w.heap.size < w2.heap.size := (by omega); have h01w2 : w.heap.size < w2.heap.size + 1 := (by omega); have h11w2 : wc.heap.size < w2.heap.size + 1 := (by omega); have h02w2 : w.heap.size < w2.heap.size + 1 + 1 := (by omega); have h12w2 : wc.heap.size < w2.heap.size + 1 + 1 := (by omega); have h3w2 : w2.heap.size < w2.heap.size + 1 + 1 := (by omega); (try (rcases Nat.lt_or_ge wc.heap.size w2.heap.size with h20w2 | h20w2; rotate_left; (exfalso; omega)))) | (go_at_call 5; refine (a_or' _ _ _ (by simp)).mono ?_; rintro e w2 ⟨rfl, hbw2⟩; obtain ⟨hcw2, hfw2⟩ := bcell hbw2; have hzw2 := hbw2.size; (try simp at hzw2); have h00w2 : w.heap.size < w2.heap.size := (by omega); have h01w2 : w.heap.size < w2.heap.size + 1 := (by omega); have h11w2 : wc.heap.size < w2.heap.size + 1 := (by omega); have h02w2 : w.heap.size < w2.heap.size + 1 + 1 := (by omega); have h12w2 : wc.heap.size < w2.heap.size + 1 + 1 := (by omega); have h3w2 : w2.heap.size < w2.heap.size + 1 + 1 := (by omega); (try (rcases Nat.lt_or_ge wc.heap.size w2.heap.size with h20w2 | h20w2; rotate_left; (exfalso; omega)))))
        all_goals
          have n1 : ¬ w.heap.size = w1.heap.size := by omega
          have n2 : ¬ w.heap.size = w1.heap.size + 1 := by omega
          have n5 : ¬ w1.heap.size = w.heap.size := by omega
          have n6 : ¬ w1.heap.size + 1 = w.heap.size := by omega
          have n8 : w.heap.size < w2.heap.size := by omega
          have n10 : w1.heap.size ≤ w2.heap.size := by omega
          have key : ∀ {W' : World} {p : Nat}, Below wc.heap.size wc W' → Box W' p (bo true) → ∃ b5, Value.pointer (some ⟨p, 0, none⟩) = .pointer (some ⟨b5, 0, none⟩) ∧ Hid (Box W' w.heap.size (fl 3)) ∧ Hid (Box W' (w.heap.size + 1) nul) ∧ Hid (Box W' b3 (fl 3)) ∧ Hid (Box W' b4 nul) ∧ Hid (Box W' b5 (bo true)) ∧ Hid (Below w.heap.size w W') := fun B5 hb => ⟨_, rfl, Y1.out.below B5, Y2.out.below B5, Y3.out.below B5, Y4.out.below B5, hb, bel_trans B.out (B5.mono (by omega))⟩
          go_wp2
          go_meet
          refine key ?_ ?_
          · repeat (first | exact Below.refl _ _ | (refine bel_trans ?_ (by assumption)) | (with_reducible apply bel_alloc) | (with_reducible apply Below.drew) | apply bel_alloc | apply Below.drew | refine bel_set ?_ (by simp; try omega) _)
          · constructor <;> first | (simp [*, go_sem, World.cell?_alloc_past, World.frozen?_alloc_past]; done) | (simp; omega)
      case rest =>
        obtain ⟨b5, rfl, Z1, Z2, Z3, Z4, Z5, B⟩ := hcut
        obtain ⟨h2, c20, c21, c22, c23, -, -, -, -⟩ := Z2.out
        go_upto_region 7 with (first | (go_at_call 20; refine (a_in _).mono ?_; rintro e w1 ⟨rfl, hb1⟩) | (go_at_call 7; refine (a_kind _ _ (by simp)).mono ?_; rintro e w2 ⟨rfl, hb2⟩))
        have Bn := Box.new w1 (bo false)
        have B1 : Below wc.heap.size wc (w1.alloc (.cells #[.int .u8 3, .int .i64 0, .string ⟨#[]⟩, .int .i64 0] 31)) := bel_alloc hb1 _
        have B2 : Below wc.heap.size wc w2 := bel_trans (bel_alloc B1 _) hb2
        have B3 : Below (w1.alloc (.cells #[.int .u8 3, .int .i64 0, .string ⟨#[]⟩, .int .i64 0] 31)).heap.size (w1.alloc (.cells #[.int .u8 3, .int .i64 0, .string ⟨#[]⟩, .int .i64 0] 31)) w2 := bel_trans (bel_alloc (Below.refl _ _) _) hb2
        have Bw : Hid (Below w.heap.size w w2) := bel_trans B.out B2
        obtain ⟨i1, d10, d11, d12, d13, -, -, -, -⟩ := Z1.out.below B2
        obtain ⟨i2, d20, d21, d22, d23, -, -, -, -⟩ := Z2.out.below B2
        obtain ⟨i3, d30, d31, d32, d33, -, -, -, -⟩ := Z3.out.below B2
        obtain ⟨i4, d40, d41, d42, d43, -, -, -, -⟩ := Z4.out.below B2
        obtain ⟨i5, d50, d51, d52, d53, -, -, -, -⟩ := Z5.out.below B2
        obtain ⟨i6, d60, d61, d62, d63, -, -, -, -⟩ := Bn.below B3
        clear hb1 hb2 B1 B2 B3 Bn c20 c21 c22 c23
        refine region_far (by kernel_rfl) (by kernel_rfl) ?_
        repeat (go_big_quiet_step ((first | (go_at_call 21; first | with_reducible exact call_far (a_same3 _) | with_reducible exact call_far (a_same0 _) | with_reducible exact call_far (a_sameT _) | with_reducible exact call_far (a_sameF _)) | (go_at_call 19; first | with_reducible exact call_far (a_T _) | with_reducible exact call_far (a_F _)))))
        refine wpQuiet_nil ?_
        intro wq6 hbq6
        go_wp2
        exact bodyPost_ret (v := .bool true) (by simp [results, Tryz.results6, go_sem, *]) rfl ⟨rfl, bel_trans Bw.out hbq6⟩
end Go.Proofs.YtdbhencjomnjhaaGreatDoor.K
namespace Go.Proofs.YtdbhencjomnjhaaGreatDoor.K
open Go.ChangeShapes Go.WideShapes Go.ChangeAt Go.RowKit Go.Proofs.YtdbhencjomnjhaaGreatDoor.V
theorem app_list {P : Program} {ops : Array Oper} {rest : List Oper} {o : Oper} {a : Act} {w w' : World} {Q : Exit → Act → World → Prop} {s x : Operand} {t : TypeId} {v vx v' : Value} (hgd : o.guard = none)
    (ho : o.op = .call { callee := .builtin .append, args := #[s, x], argTypes := #[t, t] }) (hs : a.eval s = v) (hx : a.eval x = vx) (hr : (Builtin.append_ #[t, t] o.type #[v, vx]).run P w = .ok v' w')
    (h : wpList P ops Q rest (a.put o.dst v') w') : wpList P ops Q (o :: rest) a w := by
  refine wpList_plain hgd fun K hK => ?_
  unfold Oper.wp execOp
  simp only [ho, resolve, invoke, builtin, Sem.run_bind, Sem.run_pure, Result.andThen_ok, List.map_toArray, List.map_cons, List.map_nil, hs, hx, hr]
  exact hK _ _ h
/-- What an append of one kind to a row leaves. -/
theorem app_row {w W : World} {v : Value} {xs : List Int} {x : Int} (O : W.ownsRow w.heap.size 26 1 v xs.length (xs.map kI)) (hB : Below w.heap.size w W) (hlen : xs.length + 1 ≤ 140737488351232) :
    ∃ a2 m cp w2, (Builtin.append_ #[24, 24] 24 #[v, .slice (some ⟨W.heap.size, 0, none⟩) 1 1]).run Tryz.prog (W.alloc (.cells #[kI x] 26)) = .ok (.slice a2 m cp) w2 ∧ Hid (m = (xs ++ [x]).length) ∧
      Hid (w2.ownsRow w.heap.size 26 1 (.slice a2 m cp) m ((xs ++ [x]).map kI)) ∧ Hid (Below w.heap.size w w2) ∧
      Hid (∀ v' (n : Nat) zs, ApartV v v' → W.ownsRow w.heap.size 26 1 v' n zs → w2.ownsRow w.heap.size 26 1 v' n zs ∧ ApartV (.slice a2 m cp) v') := by
  obtain ⟨i, hi, hz, hs, hby⟩ := info_parts infoKind
  obtain ⟨v2, w2, hr, O2, hg, -, hnb⟩ := run_append_own_at (P := Tryz.prog) (w := W.alloc (.cells #[kI x] 26)) w.heap.size 24 24 26 i _ 1 1 Tryz.underlying24 hi hz hs hby rfl (by omega) v _ _ (O.alloc _) ⟨W.heap.size, 0, none⟩ 1 1 [kI x] rfl (cell_one_new W (kI x) 26)
    (by intro u hu; rw [List.mem_singleton.1 hu]; rfl) (by unfold maxLen; omega) (by omega) (Nat.le_trans hB.size (by simp))
  have e : xs.map kI ++ [kI x] = (xs ++ [x]).map kI := by simp
  have e2 : xs.length + 1 = (xs ++ [x]).length := by simp
  rw [e, e2] at O2
  obtain ⟨a2, cp, rfl⟩ := own_slice O2
  have hrow : ∀ k, v.ownBlock = some k → w.heap.size ≤ k := fun k hk => (O.lt k hk).1
  refine ⟨a2, _, cp, w2, hr, rfl, O2, ?_, fun v' n zs hA O' => ⟨(O'.alloc _).kept hg ?_, ?_⟩⟩
  · have hB1 := bel_alloc hB (.cells #[kI x] 26)
    exact ⟨hg.os.trans hB1.os, hg.tape.trans hB1.tape, hg.output.trans hB1.output, Nat.le_trans hB1.size hg.size, fun k hk => (hg.block k (Nat.lt_of_lt_of_le hk hB1.size) (fun e => by have := hrow k e.symm; omega)).trans (hB1.block k hk)⟩
  · cases hv : v'.ownBlock with
    | none => exact .inl rfl
    | some k => exact .inr fun e => hA k e.symm hv
  · intro k hk e
    rcases hnb with h | h
    · exact hA k (h ▸ hk) e
    · rw [h] at hk
      have h1 := (O'.lt k e).2
      have h2 : (W.alloc (.cells #[kI x] 26)).heap.size = k := Option.some.inj hk
      simp at h2
      omega
theorem cks_drop {l : List Int} {k : Nat} {x : Int} (h : l[k]? = some x) (c : Bool) :
    cks c (l.drop k) = if c && decide (k + 1 < l.length) then (x :: (cks (!c) (l.drop (k + 1))).1, (cks (!c) (l.drop (k + 1))).2) else ((cks (!c) (l.drop (k + 1))).1, x :: (cks (!c) (l.drop (k + 1))).2) := by
  have hk := (List.getElem?_eq_some_iff.1 h).1
  rw [List.drop_eq_getElem_cons hk, cks, (List.getElem?_eq_some_iff.1 h).2]
  have : (!(l.drop (k + 1)).isEmpty) = decide (k + 1 < l.length) := by
    rw [Bool.eq_iff_iff]
    simp [List.isEmpty_iff, List.drop_eq_nil_iff]
  rw [this]
theorem cks_end {l : List Int} {k : Nat} (h : l.length ≤ k) (c : Bool) : cks c (l.drop k) = ([], []) := by rw [List.drop_eq_nil_of_le h]; cases c <;> rfl
end Go.Proofs.YtdbhencjomnjhaaGreatDoor.K
