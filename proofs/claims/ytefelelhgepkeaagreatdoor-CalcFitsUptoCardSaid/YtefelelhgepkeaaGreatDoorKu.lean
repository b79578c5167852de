/- The program's Exists, In and Scalar. -/
import Derived.Test.YtefelelhgepkeaaGreatDoorKt
import Derived.Test.YtefelelhgepkeaaGreatDoorKf
namespace Go.Proofs.YtefelelhgepkeaaGreatDoor.K
open Go.ChangeShapes Go.WideShapes Go.ChangeAt Go.RowKit Go.Proofs.YtefelelhgepkeaaGreatDoor.V
def existsO (e : Int) (rows : List (List Vl)) : Ot := if okOut e rows then (if e ≠ 0 then fl e else bo (decide (0 < rows.length))) else fl 1
def hd (l : List Vl) : Vl := l.headD (0, 0, ⟨#[]⟩)
def scalarO (e : Int) (rows : List (List Vl)) : Ot := if okCol e rows then (if e ≠ 0 then fl e else if 1 < rows.length then fl 6 else if rows.length = 0 then nul else ofV (hd (rows.headD []))) else fl 1
def inO (x : Ot) (e : Int) (rows : List (List Vl)) : Ot := if x.ok && okCol e rows then (if lst x.e e ≠ 0 then fl (lst x.e e) else inL x false (rows.map hd)) else fl 1
set_option maxHeartbeats 4000000 in
theorem c_Exists (a : Option Addr) (n c : Nat) (e : Int) (l : List Rw) (hn : n ≤ 9223372036854775807) (w : World) (h : Rows2 w a n l) : Ret 22 #[outV a n c e] w (enc (existsO e (l.map (·.2)))) := by
  have HL := Lib.hid h
  have hlen := Lib.hid h.one.len
  clear h
  cases ho : okOut e (l.map (·.2)) with
  | false =>
    have HR : Hid (existsO e (l.map (·.2)) = fl 1) := by show _ = _; unfold existsO; rw [ho]; rfl
    have HO := Lib.hid ho
    clear ho
    go_enter Tryz.func22, Tryz.ntmps22
    go_wp2_with fail
    refine (c_isOutcome a n c e l hn _ (HL.out.below (bel_alloc (bel_alloc (Below.refl _ _) _) _))).mono ?_; rintro e w1 ⟨rfl, hbw1⟩; obtain ⟨hcw1, hfw1⟩ := bcell hbw1; have hzw1 := hbw1.size; (try simp at hzw1); have hk0w1 : w.heap.size < w1.heap.size := (by omega); have hk1w1 : w.heap.size + 1 < w1.heap.size := (by omega)
    rw [HO.out]
    go_wp2_with fail
    refine (c_failing 1 _).mono ?_; rintro e w2 ⟨rfl, hbw2⟩; obtain ⟨hcw2, hfw2⟩ := bcell hbw2; have hzw2 := hbw2.size; (try simp at hzw2); have hk0w2 : w.heap.size < w2.heap.size := (by omega); have hk1w2 : w.heap.size + 1 < w2.heap.size := (by omega)
    go_wp2
    exact bodyPost_ret (v := ov 0 0 ⟨#[]⟩ 1) (by simp [results, Tryz.results22, go_sem, *]) rfl ⟨ret_v (by rw [HR.out]), by repeat (first | exact Below.refl _ _ | assumption | exact Go.Proofs.YtefelelhgepkeaaGreatDoor.V.below_drewN _ _ | (refine bel_trans ?_ (Go.Proofs.YtefelelhgepkeaaGreatDoor.V.below_drewN _ _)) | (refine bel_trans ?_ (by assumption)) | (with_reducible apply bel_alloc) | (with_reducible apply Below.drew) | apply bel_alloc | apply Below.drew | refine bel_set ?_ (by simp; try omega) _)⟩
  | true =>
    have HO := Lib.hid ho
    by_cases h0 : e = 0
    · have HR : Hid (existsO e (l.map (·.2)) = bo (decide ((n : Int) > 0))) := by
        show _ = _
        unfold existsO
        rw [ho, if_pos rfl, if_neg (by simpa using h0), List.length_map, hlen.out]
        congr 1
        rw [decide_eq_decide]; omega
      subst h0
      clear ho
      go_enter Tryz.func22, Tryz.ntmps22
      go_wp2_with fail
      refine (c_isOutcome a n c 0 l hn _ (HL.out.below (bel_alloc (bel_alloc (Below.refl _ _) _) _))).mono ?_; rintro e w1 ⟨rfl, hbw1⟩; obtain ⟨hcw1, hfw1⟩ := bcell hbw1; have hzw1 := hbw1.size; (try simp at hzw1); have hk0w1 : w.heap.size < w1.heap.size := (by omega); have hk1w1 : w.heap.size + 1 < w1.heap.size := (by omega)
      rw [HO.out]
      go_wp2_with fail
      refine (c_truth _ _).mono ?_; rintro e w2 ⟨rfl, hbw2⟩; obtain ⟨hcw2, hfw2⟩ := bcell hbw2; have hzw2 := hbw2.size; (try simp at hzw2); have hk0w2 : w.heap.size < w2.heap.size := (by omega); have hk1w2 : w.heap.size + 1 < w2.heap.size := (by omega)
      go_wp2
      all_goals exact bodyPost_ret (v := ov 3 (if decide ((n : Int) > 0) then 1 else 0) ⟨#[]⟩ 0) (by simp [results, Tryz.results22, go_sem, *]) rfl ⟨ret_v (by rw [HR.out]), by repeat (first | exact Below.refl _ _ | assumption | exact Go.Proofs.YtefelelhgepkeaaGreatDoor.V.below_drewN _ _ | (refine bel_trans ?_ (Go.Proofs.YtefelelhgepkeaaGreatDoor.V.below_drewN _ _)) | (refine bel_trans ?_ (by assumption)) | (with_reducible apply bel_alloc) | (with_reducible apply Below.drew) | apply bel_alloc | apply Below.drew | refine bel_set ?_ (by simp; try omega) _)⟩
    · have HR : Hid (existsO e (l.map (·.2)) = fl e) := by show _ = _; unfold existsO; rw [ho, if_pos rfl, if_pos h0]
      have h1 : (e != 0) = true := by simpa using h0
      clear ho
      go_enter Tryz.func22, Tryz.ntmps22
      go_wp2_with fail
      refine (c_isOutcome a n c e l hn _ (HL.out.below (bel_alloc (bel_alloc (Below.refl _ _) _) _))).mono ?_; rintro e w1 ⟨rfl, hbw1⟩; obtain ⟨hcw1, hfw1⟩ := bcell hbw1; have hzw1 := hbw1.size; (try simp at hzw1); have hk0w1 : w.heap.size < w1.heap.size := (by omega); have hk1w1 : w.heap.size + 1 < w1.heap.size := (by omega)
      rw [HO.out]
      go_wp2_with fail
      refine (c_failing e _).mono ?_; rintro e w2 ⟨rfl, hbw2⟩; obtain ⟨hcw2, hfw2⟩ := bcell hbw2; have hzw2 := hbw2.size; (try simp at hzw2); have hk0w2 : w.heap.size < w2.heap.size := (by omega); have hk1w2 : w.heap.size + 1 < w2.heap.size := (by omega)
      go_wp2
      exact bodyPost_ret (v := ov 0 0 ⟨#[]⟩ e) (by simp [results, Tryz.results22, go_sem, *]) rfl ⟨ret_v (by rw [HR.out]), by repeat (first | exact Below.refl _ _ | assumption | exact Go.Proofs.YtefelelhgepkeaaGreatDoor.V.below_drewN _ _ | (refine bel_trans ?_ (Go.Proofs.YtefelelhgepkeaaGreatDoor.V.below_drewN _ _)) | (refine bel_trans ?_ (by assumption)) | (with_reducible apply bel_alloc) | (with_reducible apply Below.drew) | apply bel_alloc | apply Below.drew | refine bel_set ?_ (by simp; try omega) _)⟩
set_option maxHeartbeats 4000000 in
theorem c_Scalar (a : Option Addr) (n c : Nat) (e : Int) (l : List Rw) (hn : n ≤ 9223372036854775807) (w : World) (h : Rows2 w a n l) : Ret 24 #[outV a n c e] w (enc (scalarO e (l.map (·.2)))) := by
  have HL := Lib.hid h
  have hlen := Lib.hid h.one.len
  clear h
  cases ho : okCol e (l.map (·.2)) with
  | false =>
    have HR : Hid (scalarO e (l.map (·.2)) = fl 1) := by show _ = _; unfold scalarO; rw [ho]; rfl
    have HO := Lib.hid ho
    clear ho
    go_enter Tryz.func24, Tryz.ntmps24
    go_wp2_with fail
    refine (c_isColumn a n c e l hn _ (HL.out.below (bel_alloc (bel_alloc (Below.refl _ _) _) _))).mono ?_; rintro e w1 ⟨rfl, hbw1⟩; obtain ⟨hcw1, hfw1⟩ := bcell hbw1; have hzw1 := hbw1.size; (try simp at hzw1); have hk0w1 : w.heap.size < w1.heap.size := (by omega); have hk1w1 : w.heap.size + 1 < w1.heap.size := (by omega)
    rw [HO.out]
    go_wp2_with fail
    refine (c_failing 1 _).mono ?_; rintro e w2 ⟨rfl, hbw2⟩; obtain ⟨hcw2, hfw2⟩ := bcell hbw2; have hzw2 := hbw2.size; (try simp at hzw2); have hk0w2 : w.heap.size < w2.heap.size := (by omega); have hk1w2 : w.heap.size + 1 < w2.heap.size := (by omega)
    go_wp2
    exact bodyPost_ret (v := ov 0 0 ⟨#[]⟩ 1) (by simp [results, Tryz.results24, go_sem, *]) rfl ⟨ret_v (by rw [HR.out]), by repeat (first | exact Below.refl _ _ | assumption | exact Go.Proofs.YtefelelhgepkeaaGreatDoor.V.below_drewN _ _ | (refine bel_trans ?_ (Go.Proofs.YtefelelhgepkeaaGreatDoor.V.below_drewN _ _)) | (refine bel_trans ?_ (by assumption)) | (with_reducible apply bel_alloc) | (with_reducible apply Below.drew) | apply bel_alloc | apply Below.drew | refine bel_set ?_ (by simp; try omega) _)⟩
  | true =>
    have HO := Lib.hid ho
    by_cases h0 : e = 0
    · subst h0
      by_cases h1 : 1 < n
      · have HR : Hid (scalarO 0 (l.map (·.2)) = fl 6) := by
          show _ = _
          unfold scalarO
          rw [ho, if_pos rfl, if_neg (by simp), if_pos (by rw [List.length_map, ← hlen.out]; exact h1)]
        have h2 : ((n : Int) > 1) := by omega
        have h3 : (1 : Int) < n := by omega
        clear ho
        go_enter Tryz.func24, Tryz.ntmps24
        go_wp2_with fail
        refine (c_isColumn a n c 0 l hn _ (HL.out.below (bel_alloc (bel_alloc (Below.refl _ _) _) _))).mono ?_; rintro e w1 ⟨rfl, hbw1⟩; obtain ⟨hcw1, hfw1⟩ := bcell hbw1; have hzw1 := hbw1.size; (try simp at hzw1); have hk0w1 : w.heap.size < w1.heap.size := (by omega); have hk1w1 : w.heap.size + 1 < w1.heap.size := (by omega)
        rw [HO.out]
        go_wp2_with fail
        refine (c_failing 6 _).mono ?_; rintro e w2 ⟨rfl, hbw2⟩; obtain ⟨hcw2, hfw2⟩ := bcell hbw2; have hzw2 := hbw2.size; (try simp at hzw2); have hk0w2 : w.heap.size < w2.heap.size := (by omega); have hk1w2 : w.heap.size + 1 < w2.heap.size := (by omega)
        go_wp2
        exact bodyPost_ret (v := ov 0 0 ⟨#[]⟩ 6) (by simp [results, Tryz.results24, go_sem, *]) rfl ⟨ret_v (by rw [HR.out]), by repeat (first | exact Below.refl _ _ | assumption | exact Go.Proofs.YtefelelhgepkeaaGreatDoor.V.below_drewN _ _ | (refine bel_trans ?_ (Go.Proofs.YtefelelhgepkeaaGreatDoor.V.below_drewN _ _)) | (refine bel_trans ?_ (by assumption)) | (with_reducible apply bel_alloc) | (with_reducible apply Below.drew) | apply bel_alloc | apply Below.drew | refine bel_set ?_ (by simp; try omega) _)⟩
      · by_cases hz : n = 0
        · have HR : Hid (scalarO 0 (l.map (·.2)) = nul) := by
            show _ = _
            unfold scalarO
            rw [ho, if_pos rfl, if_neg (by simp), if_neg (by rw [List.length_map, ← hlen.out]; exact h1), if_pos (by rw [List.length_map, ← hlen.out]; exact hz)]
          subst hz
          clear ho
          go_enter Tryz.func24, Tryz.ntmps24
          go_wp2_with fail
          refine (c_isColumn a 0 c 0 l hn _ (HL.out.below (bel_alloc (bel_alloc (Below.refl _ _) _) _))).mono ?_; rintro e w1 ⟨rfl, hbw1⟩; obtain ⟨hcw1, hfw1⟩ := bcell hbw1; have hzw1 := hbw1.size; (try simp at hzw1); have hk0w1 : w.heap.size < w1.heap.size := (by omega); have hk1w1 : w.heap.size + 1 < w1.heap.size := (by omega)
          rw [HO.out]
          go_wp2_with fail
          refine (c_null _).mono ?_; rintro e w2 ⟨rfl, hbw2⟩; obtain ⟨hcw2, hfw2⟩ := bcell hbw2; have hzw2 := hbw2.size; (try simp at hzw2); have hk0w2 : w.heap.size < w2.heap.size := (by omega); have hk1w2 : w.heap.size + 1 < w2.heap.size := (by omega)
          go_wp2
          exact bodyPost_ret (v := ov 0 0 ⟨#[]⟩ 0) (by simp [results, Tryz.results24, go_sem, *]) rfl ⟨ret_v (by rw [HR.out]), by repeat (first | exact Below.refl _ _ | assumption | exact Go.Proofs.YtefelelhgepkeaaGreatDoor.V.below_drewN _ _ | (refine bel_trans ?_ (Go.Proofs.YtefelelhgepkeaaGreatDoor.V.below_drewN _ _)) | (refine bel_trans ?_ (by assumption)) | (with_reducible apply bel_alloc) | (with_reducible apply Below.drew) | apply bel_alloc | apply Below.drew | refine bel_set ?_ (by simp; try omega) _)⟩
        · obtain rfl : n = 1 := by omega
          obtain ⟨g, p, x, rfl, hx, hg, c0⟩ := HL.out.one.at_ 0 (by omega)
          obtain ⟨hv, hvn⟩ := HL.out.row x (List.mem_of_getElem? hx)
          obtain ⟨y, hy⟩ : ∃ y, l = [y] := by
            match l, hlen.out with
            | [y], _ => exact ⟨y, rfl⟩
          subst hy
          obtain rfl : y = x := Option.some.inj hx
          have hone : y.2.length = 1 := by
            have := ho
            unfold okCol at this
            simp at this
            exact this.2
          have hyn : y.1.2.1 = 1 := hv.len.trans hone
          obtain ⟨g2, p2, v, e2, hv0, hg2, d0, d1, d2⟩ := hv.at_ 0 (by omega)
          have hhd : hd y.2 = v := by
            match y.2, hv0 with
            | u :: t, hv0 => exact Option.some.inj hv0
          have HR : Hid (scalarO 0 ([y].map (·.2)) = ofV v) := by
            show _ = _
            unfold scalarO
            rw [ho, if_pos rfl, if_neg (by simp), if_neg (by simp), if_neg (by simp)]
            show ofV (hd y.2) = _
            rw [hhd]
          have c0 : w.cell? ⟨g, p, none⟩ = some (.slice (some ⟨g2, p2, none⟩) 1 y.1.2.2) := by
            rw [Nat.add_zero] at c0; rw [c0]; show some (Value.slice y.1.1 y.1.2.1 y.1.2.2) = _; rw [e2, hyn]
          have d0 : w.cell? ⟨g2, p2, none⟩ = some (.int .u8 v.1) := by simpa using d0
          have d1 : w.cell? ⟨g2, p2 + 1, none⟩ = some (.int .i64 v.2.1) := by simpa using d1
          have d2 : w.cell? ⟨g2, p2 + 2, none⟩ = some (.string v.2.2) := by simpa using d2
          clear ho hone hyn hv hv0 hx hhd
          go_enter Tryz.func24, Tryz.ntmps24
          go_wp2_with fail
          refine (c_isColumn (some ⟨g, p, none⟩) 1 c 0 [y] hn _ (HL.out.below (bel_alloc (bel_alloc (Below.refl _ _) _) _))).mono ?_; rintro e w1 ⟨rfl, hbw1⟩; obtain ⟨hcw1, hfw1⟩ := bcell hbw1; have hzw1 := hbw1.size; (try simp at hzw1); have hk0w1 : w.heap.size < w1.heap.size := (by omega); have hk1w1 : w.heap.size + 1 < w1.heap.size := (by omega)
          rw [HO.out]
          have hg1 : g < w1.heap.size := by omega
          have hg21 : g2 < w1.heap.size := by omega
          have B1 : Below w.heap.size w w1 := by repeat (first | exact Below.refl _ _ | assumption | exact Go.Proofs.YtefelelhgepkeaaGreatDoor.V.below_drewN _ _ | (refine bel_trans ?_ (Go.Proofs.YtefelelhgepkeaaGreatDoor.V.below_drewN _ _)) | (refine bel_trans ?_ (by assumption)) | (with_reducible apply bel_alloc) | (with_reducible apply Below.drew) | apply bel_alloc | apply Below.drew | refine bel_set ?_ (by simp; try omega) _)
          have c01 := ((bcell B1).1 g p hg).trans c0
          have d01 := ((bcell B1).1 g2 p2 hg2).trans d0
          have d11 := ((bcell B1).1 g2 (p2 + 1) hg2).trans d1
          have d21 := ((bcell B1).1 g2 (p2 + 2) hg2).trans d2
          clear c0 d0 d1 d2 hg hg2
          go_wp2
          exact bodyPost_ret (v := ov v.1 v.2.1 v.2.2 0) (by simp [results, Tryz.results24, go_sem, *]) rfl ⟨ret_v (by rw [HR.out]; rfl), by repeat (first | exact Below.refl _ _ | assumption | exact Go.Proofs.YtefelelhgepkeaaGreatDoor.V.below_drewN _ _ | (refine bel_trans ?_ (Go.Proofs.YtefelelhgepkeaaGreatDoor.V.below_drewN _ _)) | (refine bel_trans ?_ (by assumption)) | (with_reducible apply bel_alloc) | (with_reducible apply Below.drew) | apply bel_alloc | apply Below.drew | refine bel_set ?_ (by simp; try omega) _)⟩
    · have HR : Hid (scalarO e (l.map (·.2)) = fl e) := by show _ = _; unfold scalarO; rw [ho, if_pos rfl, if_pos h0]
      have h1 : (e != 0) = true := by simpa using h0
      clear ho
      go_enter Tryz.func24, Tryz.ntmps24
      go_wp2_with fail
      refine (c_isColumn a n c e l hn _ (HL.out.below (bel_alloc (bel_alloc (Below.refl _ _) _) _))).mono ?_; rintro e w1 ⟨rfl, hbw1⟩; obtain ⟨hcw1, hfw1⟩ := bcell hbw1; have hzw1 := hbw1.size; (try simp at hzw1); have hk0w1 : w.heap.size < w1.heap.size := (by omega); have hk1w1 : w.heap.size + 1 < w1.heap.size := (by omega)
      rw [HO.out]
      go_wp2_with fail
      refine (c_failing e _).mono ?_; rintro e w2 ⟨rfl, hbw2⟩; obtain ⟨hcw2, hfw2⟩ := bcell hbw2; have hzw2 := hbw2.size; (try simp at hzw2); have hk0w2 : w.heap.size < w2.heap.size := (by omega); have hk1w2 : w.heap.size + 1 < w2.heap.size := (by omega)
      go_wp2
      exact bodyPost_ret (v := ov 0 0 ⟨#[]⟩ e) (by simp [results, Tryz.results24, go_sem, *]) rfl ⟨ret_v (by rw [HR.out]), by repeat (first | exact Below.refl _ _ | assumption | exact Go.Proofs.YtefelelhgepkeaaGreatDoor.V.below_drewN _ _ | (refine bel_trans ?_ (Go.Proofs.YtefelelhgepkeaaGreatDoor.V.below_drewN _ _)) | (refine bel_trans ?_ (by assumption)) | (with_reducible apply bel_alloc) | (with_reducible apply Below.drew) | apply bel_alloc | apply Below.drew | refine bel_set ?_ (by simp; try omega) _)⟩
end Go.Proofs.YtefelelhgepkeaaGreatDoor.K
