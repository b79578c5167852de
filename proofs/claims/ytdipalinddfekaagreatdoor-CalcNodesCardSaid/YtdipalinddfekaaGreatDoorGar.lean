/- The program's In. -/
import Derived.Test.YtdipalinddfekaaGreatDoorGaq
import Derived.Test.YtdipalinddfekaaGreatDoorGaf
namespace Go.Proofs.YtdipalinddfekaaGreatDoor.K
open Go.ChangeShapes Go.WideShapes Go.ChangeAt Go.RowKit Go.Proofs.YtdipalinddfekaaGreatDoor.V
def sameV (u v : Vl) : Bool := same u.1 u.2.1 u.2.2 v.1 v.2.1 v.2.2
theorem lt_of_cell {W : World} {b o : Nat} {v : Value} (h : W.cell? ⟨b, o, none⟩ = some v) : b < W.heap.size := by
  rcases Nat.lt_or_ge b W.heap.size with h' | h'
  · exact h'
  · unfold World.cell? at h; simp [Array.getElem?_eq_none h'] at h
theorem c_rowHas (x : Rw) (v : Vl) (b : Nat) (w : World) (h : Vals w x.1.1 x.1.2.1 x.2) (h1 : x.2.length = 1) (b0 : w.cell? ⟨b, 0, none⟩ = some (.int .u8 v.1)) (b1 : w.cell? ⟨b, 1, none⟩ = some (.int .i64 v.2.1)) (b2 : w.cell? ⟨b, 2, none⟩ = some (.string v.2.2)) :
    Ret 64 #[rI x, .pointer (some ⟨b, 0, none⟩)] w (.bool (sameV (hd x.2) v)) := by
  obtain ⟨⟨a, n, c⟩, vs⟩ := x
  have hn : n = 1 := h.len.trans h1
  subst hn
  obtain ⟨g2, p2, u, e2, hv0, hg2, d0, d1, d2⟩ := h.at_ 0 (show 0 < 1 by omega)
  simp only at e2 hv0
  subst e2
  have hhd : hd vs = u := by
    match vs, hv0 with
    | u :: t, hv0 => exact Option.some.inj hv0
  have HR : Hid (sameV (hd vs) v = same u.1 u.2.1 u.2.2 v.1 v.2.1 v.2.2) := by show _ = _; rw [hhd]; rfl
  have d0 : w.cell? ⟨g2, p2, none⟩ = some (.int .u8 u.1) := by simpa using d0
  have d1 : w.cell? ⟨g2, p2 + 1, none⟩ = some (.int .i64 u.2.1) := by simpa using d1
  have d2 : w.cell? ⟨g2, p2 + 2, none⟩ = some (.string u.2.2) := by simpa using d2
  clear h h1 hv0 hhd
  show Ret 64 #[.slice (some ⟨g2, p2, none⟩) 1 c, .pointer (some ⟨b, 0, none⟩)] w _
  obtain ⟨uk, un, us⟩ := u
  obtain ⟨vk, vn, vs2⟩ := v
  simp only at d0 d1 d2 b0 b1 b2 HR
  by_cases h1 : uk = vk
  · by_cases h2 : un = vn
    · by_cases h3 : us.toList = vs2.toList
      · go_enter Tryz.func64, Tryz.ntmps64
        go_wp2
        go_quiet (fail)
        go_wp2
        go_ret
        exact ⟨ret_bool (by rw [HR.out]; simp [same, h1, h2, h3]), by repeat (first | exact Below.refl _ _ | assumption | exact Go.Proofs.YtdipalinddfekaaGreatDoor.V.below_drewN _ _ | (refine bel_trans ?_ (Go.Proofs.YtdipalinddfekaaGreatDoor.V.below_drewN _ _)) | (refine bel_trans ?_ (by assumption)) | (with_reducible apply bel_alloc) | (with_reducible apply Below.drew) | apply bel_alloc | apply Below.drew | refine bel_set ?_ (by simp; try omega) _)⟩
      · go_enter Tryz.func64, Tryz.ntmps64
        go_wp2
        go_quiet (fail)
        go_wp2
        go_ret
        exact ⟨ret_bool (by rw [HR.out]; simp [same, h1, h2, h3]), by repeat (first | exact Below.refl _ _ | assumption | exact Go.Proofs.YtdipalinddfekaaGreatDoor.V.below_drewN _ _ | (refine bel_trans ?_ (Go.Proofs.YtdipalinddfekaaGreatDoor.V.below_drewN _ _)) | (refine bel_trans ?_ (by assumption)) | (with_reducible apply bel_alloc) | (with_reducible apply Below.drew) | apply bel_alloc | apply Below.drew | refine bel_set ?_ (by simp; try omega) _)⟩
    · go_enter Tryz.func64, Tryz.ntmps64
      go_wp2
      go_quiet (fail)
      go_wp2
      go_ret
      exact ⟨ret_bool (by rw [HR.out]; simp [same, h1, h2]), by repeat (first | exact Below.refl _ _ | assumption | exact Go.Proofs.YtdipalinddfekaaGreatDoor.V.below_drewN _ _ | (refine bel_trans ?_ (Go.Proofs.YtdipalinddfekaaGreatDoor.V.below_drewN _ _)) | (refine bel_trans ?_ (by assumption)) | (with_reducible apply bel_alloc) | (with_reducible apply Below.drew) | apply bel_alloc | apply Below.drew | refine bel_set ?_ (by simp; try omega) _)⟩
  · go_enter Tryz.func64, Tryz.ntmps64
    go_wp2
    go_quiet (fail)
    go_wp2
    go_ret
    exact ⟨ret_bool (by rw [HR.out]; simp [same, h1]), by repeat (first | exact Below.refl _ _ | assumption | exact Go.Proofs.YtdipalinddfekaaGreatDoor.V.below_drewN _ _ | (refine bel_trans ?_ (Go.Proofs.YtdipalinddfekaaGreatDoor.V.below_drewN _ _)) | (refine bel_trans ?_ (by assumption)) | (with_reducible apply bel_alloc) | (with_reducible apply Below.drew) | apply bel_alloc | apply Below.drew | refine bel_set ?_ (by simp; try omega) _)⟩
theorem c_has (v : Vl) (a : Option Addr) (n c : Nat) (e : Int) (l : List Rw) (hn : n ≤ 9223372036854775807) (b : Nat) (w : World) (h : Rows2 w a n l) (h1 : ∀ x ∈ l, x.2.length = 1) (b0 : w.cell? ⟨b, 0, none⟩ = some (.slice a n c)) :
    Ret 62 #[encV v, .pointer (some ⟨b, 0, none⟩)] w (.bool ((l.map fun x => hd x.2).any fun u => sameV u v)) := by
  have HL := Lib.hid h
  have H1 := Lib.hid h1
  clear h h1
  have hb := lt_of_cell b0
  have b01 := ((bel_alloc (Below.refl w.heap.size w) (.cells #[.int .u8 v.1, .int .i64 v.2.1, .string v.2.2] 26)).cell (p := ⟨b, 0, none⟩) hb).trans b0
  go_enter Tryz.func62, Tryz.ntmps62
  go_wp2_with fail
  have HL2 := Lib.hid (HL.out.below (bel_alloc (Below.refl _ w) (.cells #[.int .u8 v.1, .int .i64 v.2.1, .string v.2.2] 26)))
  refine (l_ContainsRow 64 #[.pointer (some ⟨w.heap.size, 0, none⟩)] (fun _ _ => by kernel_rfl) (fun x => sameV (hd x.2) v) a n c l hn _ HL2.out.one (fun x hx w' hw' => c_rowHas x v w.heap.size w' ((HL2.out.row x hx).1.below hw') (H1.out x hx)
    ((hw'.cell (p := ⟨w.heap.size, 0, none⟩) (by simp)).trans (by simp [go_sem])) ((hw'.cell (p := ⟨w.heap.size, 1, none⟩) (by simp)).trans (by simp [go_sem])) ((hw'.cell (p := ⟨w.heap.size, 2, none⟩) (by simp)).trans (by simp [go_sem])))).mono ?_
  rintro e w2 ⟨rfl, hb2⟩
  have B2 : Hid (Below w.heap.size w w2) := bel_trans (bel_alloc (Below.refl _ _) _) hb2
  clear hb2
  go_wp2
  go_ret
  refine ⟨ret_bool ?_, B2.out⟩
  rw [List.any_map]
  simp [Function.comp_def]
/-! ### What it comes to -/
theorem inL_null (x : Ot) (hx : isN x = true) : ∀ (l : List Vl) (nl : Bool), inL x nl l = if l = [] then (if nl then nul else bo false) else nul
  | [], nl => by simp [inL]
  | v :: t, nl => by
    rw [inL, hx, Bool.true_or, if_pos rfl, inL_null x hx t true]
    cases t <;> simp
theorem inL_some (x : Ot) (hx : isN x = false) (h0 : x.k ≠ 0) : ∀ (l : List Vl) (nl : Bool), inL x nl l = if l.any (fun v => same x.k x.n x.s v.1 v.2.1 v.2.2) then bo true else if nl || l.any (fun v => v.1 == 0) then nul else bo false
  | [], nl => by simp [inL]
  | v :: t, nl => by
    rw [inL, hx, Bool.false_or]
    by_cases hv : v.1 = 0
    · have e : (v.1 == 0) = true := by simpa using hv
      have e2 : same x.k x.n x.s v.1 v.2.1 v.2.2 = false := by
        cases h : same x.k x.n x.s v.1 v.2.1 v.2.2 with
        | false => rfl
        | true => exact absurd ((same_iff.1 h).1.trans hv) h0
      rw [e, if_pos rfl, inL_some x hx h0 t true, List.any_cons, List.any_cons, e, e2]
      simp only [Bool.true_or, Bool.or_true, Bool.false_or, if_true]
    · have e : (v.1 == 0) = false := by simpa using hv
      rw [e, if_neg (by simp), List.any_cons, List.any_cons, e]
      cases same x.k x.n x.s v.1 v.2.1 v.2.2 with
      | true => simp
      | false => rw [if_neg (by simp), inL_some x hx h0 t nl]; simp only [Bool.false_or]
theorem null_is {v : Vl} (h : vOk v = true) : sameV v (0, 0, ⟨#[]⟩) = (v.1 == 0) := by
  rw [Bool.eq_iff_iff]
  unfold sameV
  rw [same_iff]
  constructor
  · rintro ⟨h1, -⟩; simpa using h1
  · intro h1
    have h1 : v.1 = 0 := by simpa using h1
    unfold vOk vd at h
    rw [if_pos h1] at h
    simp at h
    exact ⟨h1, h.1, ba_nil h.2⟩
theorem same_comm (a b : Vl) : sameV a b = sameV b a := by
  rw [Bool.eq_iff_iff]; unfold sameV; rw [same_iff, same_iff]
  constructor <;> (rintro ⟨h1, h2, h3⟩; exact ⟨h1.symm, h2.symm, h3.symm⟩)
/-- The program's two questions come to what the document says. -/
theorem in_is {x : Ot} (he : x.e = 0) (hx : x.ok = true) {l : List Vl} (hl : ∀ v ∈ l, vOk v = true) :
    inL x false l = if !isN x && l.any (fun u => sameV u (x.k, x.n, x.s)) then bo true else if decide (0 < l.length) && (isN x || l.any (fun u => sameV u (0, 0, ⟨#[]⟩))) then nul else bo false := by
  have e1 : l.any (fun u => sameV u (0, 0, ⟨#[]⟩)) = l.any (fun v => v.1 == 0) := by
    rw [Bool.eq_iff_iff, List.any_eq_true, List.any_eq_true]
    constructor
    · rintro ⟨v, hv, h⟩; exact ⟨v, hv, by rw [← null_is (hl v hv)]; exact h⟩
    · rintro ⟨v, hv, h⟩; exact ⟨v, hv, by rw [null_is (hl v hv)]; exact h⟩
  have e2 : l.any (fun u => sameV u (x.k, x.n, x.s)) = l.any (fun v => same x.k x.n x.s v.1 v.2.1 v.2.2) := by
    congr 1
    funext u
    rw [same_comm]; rfl
  rw [e1, e2]
  cases hn : isN x with
  | true =>
    rw [inL_null x hn]
    cases l <;> simp
  | false =>
    have h0 : x.k ≠ 0 := by
      intro h; simp [isN, he, h] at hn
    rw [inL_some x hn h0]
    cases l with
    | nil => simp
    | cons u t => simp only [Bool.not_false, Bool.true_and, Bool.false_or, List.length_cons, Nat.zero_lt_succ, decide_true]
/-- Two outs in a new block. -/
theorem outs_two (W : World) (x y : Ot) : Outs (W.alloc (.cells #[.int .u8 x.k, .int .i64 x.n, .string x.s, .int .i64 x.e, .int .u8 y.k, .int .i64 y.n, .string y.s, .int .i64 y.e] 29)) (some ⟨W.heap.size, 0, none⟩) 2 [x, y] :=
  ⟨rfl, fun k hk => by
    have : k = 0 ∨ k = 1 := by omega
    rcases this with rfl | rfl
    · exact ⟨_, 0, x, rfl, rfl, by simp, by simp [go_sem], by simp [go_sem], by simp [go_sem], by simp [go_sem]⟩
    · exact ⟨_, 0, y, rfl, rfl, by simp, by simp [go_sem], by simp [go_sem], by simp [go_sem], by simp [go_sem]⟩⟩
theorem errs_two (x : Ot) (e : Int) : errs 0 [x, fl e] = lst x.e e := by
  simp only [errs]
  have : lst 0 x.e = x.e := by simp [lst]
  rw [this]
theorem heads (l : List Rw) : (l.map fun x => hd x.2) = (l.map (·.2)).map hd := by rw [List.map_map]; rfl
set_option maxRecDepth 100000 in
set_option maxHeartbeats 4000000 in
theorem c_In_no (x : Ot) (a : Option Addr) (n c : Nat) (e : Int) (l : List Rw) (hn : n ≤ 9223372036854775807) (hno : (x.ok && okCol e (l.map (·.2))) = false) (w : World) (h : Rows2 w a n l) : Ret 30 #[enc x, outV a n c e] w (ov 0 0 ⟨#[]⟩ 1) := by
  have HL := Lib.hid h
  clear h
  cases hx : x.ok with
  | false =>
    have HX := Lib.hid hx
    clear hx hno
    go_enter Tryz.func30, Tryz.ntmps30
    go_wp2_with fail
    refine (c_isValid x _).mono ?_; rintro e w1 ⟨rfl, hbw1⟩; obtain ⟨hcw1, hfw1⟩ := bcell hbw1; have hzw1 := hbw1.size; (try simp at hzw1); have hk0w1 : w.heap.size < w1.heap.size := (by omega); have hk1w1 : w.heap.size + 1 < w1.heap.size := (by omega); have hk2w1 : w.heap.size + 1 + 1 < w1.heap.size := (by omega)
    rw [HX.out]
    go_wp2_with fail
    refine (c_failing 1 _).mono ?_; rintro e w2 ⟨rfl, hbw2⟩; obtain ⟨hcw2, hfw2⟩ := bcell hbw2; have hzw2 := hbw2.size; (try simp at hzw2); have hk0w2 : w.heap.size < w2.heap.size := (by omega); have hk1w2 : w.heap.size + 1 < w2.heap.size := (by omega); have hk2w2 : w.heap.size + 1 + 1 < w2.heap.size := (by omega)
    go_wp2
    exact bodyPost_ret (v := ov 0 0 ⟨#[]⟩ 1) (by simp [results, Tryz.results30, go_sem, *]) rfl ⟨rfl, by repeat (first | exact Below.refl _ _ | assumption | exact Go.Proofs.YtdipalinddfekaaGreatDoor.V.below_drewN _ _ | (refine bel_trans ?_ (Go.Proofs.YtdipalinddfekaaGreatDoor.V.below_drewN _ _)) | (refine bel_trans ?_ (by assumption)) | (with_reducible apply bel_alloc) | (with_reducible apply Below.drew) | apply bel_alloc | apply Below.drew | refine bel_set ?_ (by simp; try omega) _)⟩
  | true =>
    have HX := Lib.hid hx
    rw [hx, Bool.true_and] at hno
    have HO := Lib.hid hno
    clear hx hno
    go_enter Tryz.func30, Tryz.ntmps30
    go_wp2_with fail
    refine (c_isValid x _).mono ?_; rintro e w1 ⟨rfl, hbw1⟩; obtain ⟨hcw1, hfw1⟩ := bcell hbw1; have hzw1 := hbw1.size; (try simp at hzw1); have hk0w1 : w.heap.size < w1.heap.size := (by omega); have hk1w1 : w.heap.size + 1 < w1.heap.size := (by omega); have hk2w1 : w.heap.size + 1 + 1 < w1.heap.size := (by omega)
    rw [HX.out]
    have B1 : Below w.heap.size w w1 := by repeat (first | exact Below.refl _ _ | assumption | exact Go.Proofs.YtdipalinddfekaaGreatDoor.V.below_drewN _ _ | (refine bel_trans ?_ (Go.Proofs.YtdipalinddfekaaGreatDoor.V.below_drewN _ _)) | (refine bel_trans ?_ (by assumption)) | (with_reducible apply bel_alloc) | (with_reducible apply Below.drew) | apply bel_alloc | apply Below.drew | refine bel_set ?_ (by simp; try omega) _)
    go_wp2_with fail
    refine (c_isColumn a n c e l hn _ (HL.out.below B1)).mono ?_; rintro e w2 ⟨rfl, hbw2⟩; obtain ⟨hcw2, hfw2⟩ := bcell hbw2; have hzw2 := hbw2.size; (try simp at hzw2); have hk0w2 : w.heap.size < w2.heap.size := (by omega); have hk1w2 : w.heap.size + 1 < w2.heap.size := (by omega); have hk2w2 : w.heap.size + 1 + 1 < w2.heap.size := (by omega)
    rw [HO.out]
    go_wp2_with fail
    refine (c_failing 1 _).mono ?_; rintro e w3 ⟨rfl, hbw3⟩; obtain ⟨hcw3, hfw3⟩ := bcell hbw3; have hzw3 := hbw3.size; (try simp at hzw3); have hk0w3 : w.heap.size < w3.heap.size := (by omega); have hk1w3 : w.heap.size + 1 < w3.heap.size := (by omega); have hk2w3 : w.heap.size + 1 + 1 < w3.heap.size := (by omega)
    go_wp2
    exact bodyPost_ret (v := ov 0 0 ⟨#[]⟩ 1) (by simp [results, Tryz.results30, go_sem, *]) rfl ⟨rfl, by repeat (first | exact Below.refl _ _ | assumption | exact Go.Proofs.YtdipalinddfekaaGreatDoor.V.below_drewN _ _ | (refine bel_trans ?_ (Go.Proofs.YtdipalinddfekaaGreatDoor.V.below_drewN _ _)) | (refine bel_trans ?_ (by assumption)) | (with_reducible apply bel_alloc) | (with_reducible apply Below.drew) | apply bel_alloc | apply Below.drew | refine bel_set ?_ (by simp; try omega) _)⟩
set_option maxRecDepth 100000 in
set_option maxHeartbeats 4000000 in
theorem c_In_err (x : Ot) (a : Option Addr) (n c : Nat) (e : Int) (l : List Rw) (hn : n ≤ 9223372036854775807) (hx : x.ok = true) (hc : okCol e (l.map (·.2)) = true) (he : lst x.e e ≠ 0) (w : World) (h : Rows2 w a n l) : Ret 30 #[enc x, outV a n c e] w (ov 0 0 ⟨#[]⟩ (lst x.e e)) := by
  have HL := Lib.hid h
  have HX := Lib.hid hx
  have HO := Lib.hid hc
  have hE := Lib.hid (errs_two x e)
  have he' : (lst x.e e != 0) = true := by simpa using he
  generalize lst x.e e = z at *
  clear h hx hc he
  go_enter Tryz.func30, Tryz.ntmps30
  go_wp2_with fail
  refine (c_isValid x _).mono ?_; rintro e w1 ⟨rfl, hbw1⟩; obtain ⟨hcw1, hfw1⟩ := bcell hbw1; have hzw1 := hbw1.size; (try simp at hzw1); have hk0w1 : w.heap.size < w1.heap.size := (by omega); have hk1w1 : w.heap.size + 1 < w1.heap.size := (by omega); have hk2w1 : w.heap.size + 1 + 1 < w1.heap.size := (by omega)
  rw [HX.out]
  have B1 : Below w.heap.size w w1 := by repeat (first | exact Below.refl _ _ | assumption | exact Go.Proofs.YtdipalinddfekaaGreatDoor.V.below_drewN _ _ | (refine bel_trans ?_ (Go.Proofs.YtdipalinddfekaaGreatDoor.V.below_drewN _ _)) | (refine bel_trans ?_ (by assumption)) | (with_reducible apply bel_alloc) | (with_reducible apply Below.drew) | apply bel_alloc | apply Below.drew | refine bel_set ?_ (by simp; try omega) _)
  go_wp2_with fail
  refine (c_isColumn a n c e l hn _ (HL.out.below B1)).mono ?_; rintro e w2 ⟨rfl, hbw2⟩; obtain ⟨hcw2, hfw2⟩ := bcell hbw2; have hzw2 := hbw2.size; (try simp at hzw2); have hk0w2 : w.heap.size < w2.heap.size := (by omega); have hk1w2 : w.heap.size + 1 < w2.heap.size := (by omega); have hk2w2 : w.heap.size + 1 + 1 < w2.heap.size := (by omega)
  rw [HO.out]
  have B2 : Hid (Below w.heap.size w w2) := bel_trans B1 hbw2
  have d0 : w2.cell? ⟨w.heap.size, 0, none⟩ = some (.int .u8 x.k) := by simp [*, go_sem, World.cell?_alloc_past]
  have d1 : w2.cell? ⟨w.heap.size, 1, none⟩ = some (.int .i64 x.n) := by simp [*, go_sem, World.cell?_alloc_past]
  have d2 : w2.cell? ⟨w.heap.size, 2, none⟩ = some (.string x.s) := by simp [*, go_sem, World.cell?_alloc_past]
  have d3 : w2.cell? ⟨w.heap.size, 3, none⟩ = some (.int .i64 x.e) := by simp [*, go_sem, World.cell?_alloc_past]
  have d4 : w2.cell? ⟨w.heap.size + 1, 1, none⟩ = some (.int .i64 e) := by simp [*, go_sem, World.cell?_alloc_past]
  have HX3 : Hid (Box w2 (w.heap.size + 1 + 1) nul) := by
    constructor <;> simp [*, go_sem, World.cell?_alloc_past, World.frozen?_alloc_past]
  clear hcw1 hfw1 hzw1 hk0w1 hk1w1 hk2w1 hcw2 hfw2 hzw2 hbw2 B1 hbw1
  go_wp2_with fail
  go_region_held3 (fun w' => w'.cell? ⟨w.heap.size, 0, none⟩ = some (.int .u8 x.k) ∧ w'.cell? ⟨w.heap.size, 1, none⟩ = some (.int .i64 x.n) ∧ w'.cell? ⟨w.heap.size, 2, none⟩ = some (.string x.s) ∧ w'.cell? ⟨w.heap.size, 3, none⟩ = some (.int .i64 x.e) ∧ w'.cell? ⟨w.heap.size + 1, 1, none⟩ = some (.int .i64 e)) (simp [*, go_sem, World.cell?_alloc_past, (show w2.drew.heap.size = w2.heap.size from rfl)])
    (first | (go_at_call 24; refine (c_failing e _).mono ?_; rintro e w3 ⟨rfl, hbw3⟩; obtain ⟨hcw3, hfw3⟩ := bcell hbw3; have hzw3 := hbw3.size; (try simp at hzw3); have hk0w3 : w.heap.size < w3.heap.size := (by omega); have hk1w3 : w.heap.size + 1 < w3.heap.size := (by omega); have hk2w3 : w.heap.size + 1 + 1 < w3.heap.size := (by omega)) | (go_at_call 57; refine (c_least _ 2 2 [x, fl e] (by omega) _ (outs_two _ x (fl e))).mono ?_; rw [hE.out]; rintro e2 w4 ⟨rfl, hbw4⟩; obtain ⟨hcw4, hfw4⟩ := bcell hbw4; have hzw4 := hbw4.size; (try simp at hzw4); have hk0w4 : w.heap.size < w4.heap.size := (by omega); have hk1w4 : w.heap.size + 1 < w4.heap.size := (by omega); have hk2w4 : w.heap.size + 1 + 1 < w4.heap.size := (by omega)))
  have B4 : Below w2.heap.size w2 w4 := by
    clear B2
    exact by repeat (first | exact Below.refl _ _ | assumption | exact Go.Proofs.YtdipalinddfekaaGreatDoor.V.below_drewN _ _ | (refine bel_trans ?_ (Go.Proofs.YtdipalinddfekaaGreatDoor.V.below_drewN _ _)) | (refine bel_trans ?_ (by assumption)) | (with_reducible apply bel_alloc) | (with_reducible apply Below.drew) | apply bel_alloc | apply Below.drew | refine bel_set ?_ (by simp; try omega) _)
  have HX4 := Lib.hid (HX3.out.below B4)
  have B4' : Hid (Below w.heap.size w w4) := bel_trans B2.out B4
  go_wp2_with fail
  refine (c_failing z _).mono ?_
  rintro e3 w5 ⟨rfl, hb5⟩
  obtain ⟨hx, f0, f1, f2, f3, g0, g1, g2, g3⟩ := HX4.out.below hb5
  have B5 : Hid (Below w.heap.size w w5) := bel_trans B4'.out hb5
  clear hb5 B4 hbw4 hcw4 hfw4
  go_wp2
  exact bodyPost_ret (v := ov 0 0 ⟨#[]⟩ z) (by simp [results, Tryz.results30, go_sem, *]) rfl ⟨rfl, bel_set (bel_set (bel_set (bel_set B5.out (by simp; omega) _) (by simp; omega) _) (by simp; omega) _) (by simp; omega) _⟩
end Go.Proofs.YtdipalinddfekaaGreatDoor.K
namespace Go.Proofs.YtdipalinddfekaaGreatDoor.K
open Go.ChangeShapes Go.WideShapes Go.ChangeAt Go.RowKit Go.Proofs.YtdipalinddfekaaGreatDoor.V
set_option maxRecDepth 100000 in
set_option maxHeartbeats 4000000 in
theorem c_In_null (a : Option Addr) (n c : Nat) (l : List Rw) (hn : n ≤ 9223372036854775807) (hc : okCol 0 (l.map (·.2)) = true) (w : World) (h : Rows2 w a n l) : Ret 30 #[ov 0 0 ⟨#[]⟩ 0, outV a n c 0] w (enc (inL nul false (l.map fun x => hd x.2))) := by
  have HL := Lib.hid h
  have HX : Hid ((⟨0, 0, ⟨#[]⟩, 0⟩ : Ot).ok = true) := ok_nul
  have HO := Lib.hid hc
  have H1 : Hid (∀ x ∈ l, x.2.length = 1) := by
    intro y hy
    unfold okCol at hc
    rw [Bool.and_eq_true] at hc
    have := List.all_eq_true.1 hc.2 y.2 (List.mem_map.2 ⟨y, hy, rfl⟩)
    simpa using this
  have hE : Hid (errs 0 [(⟨0, 0, ⟨#[]⟩, 0⟩ : Ot), fl 0] = 0) := by show _ = _; rw [errs_two]; rfl
  have hlen := Lib.hid h.one.len
  clear h hc
  go_enter Tryz.func30, Tryz.ntmps30
  go_wp2_with fail
  refine (c_isValid ⟨0, 0, ⟨#[]⟩, 0⟩ _).mono ?_; rintro e w1 ⟨rfl, hbw1⟩; obtain ⟨hcw1, hfw1⟩ := bcell hbw1; have hzw1 := hbw1.size; (try simp at hzw1); have hk0w1 : w.heap.size < w1.heap.size := (by omega); have hk1w1 : w.heap.size + 1 < w1.heap.size := (by omega); have hk2w1 : w.heap.size + 1 + 1 < w1.heap.size := (by omega)
  rw [HX.out]
  have B1 : Below w.heap.size w w1 := by repeat (first | exact Below.refl _ _ | assumption | exact Go.Proofs.YtdipalinddfekaaGreatDoor.V.below_drewN _ _ | (refine bel_trans ?_ (Go.Proofs.YtdipalinddfekaaGreatDoor.V.below_drewN _ _)) | (refine bel_trans ?_ (by assumption)) | (with_reducible apply bel_alloc) | (with_reducible apply Below.drew) | apply bel_alloc | apply Below.drew | refine bel_set ?_ (by simp; try omega) _)
  go_wp2_with fail
  refine (c_isColumn a n c 0 l hn _ (HL.out.below B1)).mono ?_; rintro e w2 ⟨rfl, hbw2⟩; obtain ⟨hcw2, hfw2⟩ := bcell hbw2; have hzw2 := hbw2.size; (try simp at hzw2); have hk0w2 : w.heap.size < w2.heap.size := (by omega); have hk1w2 : w.heap.size + 1 < w2.heap.size := (by omega); have hk2w2 : w.heap.size + 1 + 1 < w2.heap.size := (by omega)
  rw [HO.out]
  have B2 : Hid (Below w.heap.size w w2) := bel_trans B1 hbw2
  have d0 : w2.cell? ⟨w.heap.size, 0, none⟩ = some (.int .u8 0) := by simp [*, go_sem, World.cell?_alloc_past]
  have d1 : w2.cell? ⟨w.heap.size, 1, none⟩ = some (.int .i64 0) := by simp [*, go_sem, World.cell?_alloc_past]
  have d2 : w2.cell? ⟨w.heap.size, 2, none⟩ = some (.string ⟨#[]⟩) := by simp [*, go_sem, World.cell?_alloc_past]
  have d3 : w2.cell? ⟨w.heap.size, 3, none⟩ = some (.int .i64 0) := by simp [*, go_sem, World.cell?_alloc_past]
  have d4 : w2.cell? ⟨w.heap.size + 1, 1, none⟩ = some (.int .i64 0) := by simp [*, go_sem, World.cell?_alloc_past]
  have d5 : w2.cell? ⟨w.heap.size + 1, 0, none⟩ = some (.slice a n c) := by simp [*, go_sem, World.cell?_alloc_past]
  have HX3 : Hid (Box w2 (w.heap.size + 1 + 1) nul) := by
    constructor <;> simp [*, go_sem, World.cell?_alloc_past, World.frozen?_alloc_past]
  clear hcw1 hfw1 hzw1 hk0w1 hk1w1 hk2w1 hcw2 hfw2 hzw2 hbw2 B1 hbw1
  go_wp2_with fail
  go_region_held3 (fun w' => w'.cell? ⟨w.heap.size, 0, none⟩ = some (.int .u8 0) ∧ w'.cell? ⟨w.heap.size, 1, none⟩ = some (.int .i64 0) ∧ w'.cell? ⟨w.heap.size, 2, none⟩ = some (.string ⟨#[]⟩) ∧ w'.cell? ⟨w.heap.size, 3, none⟩ = some (.int .i64 0) ∧ w'.cell? ⟨w.heap.size + 1, 1, none⟩ = some (.int .i64 0)) (simp [*, go_sem, World.cell?_alloc_past, (show w2.drew.heap.size = w2.heap.size from rfl)])
    (first | (go_at_call 24; refine (c_failing 0 _).mono ?_; rintro e w3 ⟨rfl, hbw3⟩; obtain ⟨hcw3, hfw3⟩ := bcell hbw3; have hzw3 := hbw3.size; (try simp at hzw3); have hk0w3 : w.heap.size < w3.heap.size := (by omega); have hk1w3 : w.heap.size + 1 < w3.heap.size := (by omega); have hk2w3 : w.heap.size + 1 + 1 < w3.heap.size := (by omega)) | (go_at_call 57; refine (c_least _ 2 2 [⟨0, 0, ⟨#[]⟩, 0⟩, fl 0] (by omega) _ (outs_two _ ⟨0, 0, ⟨#[]⟩, 0⟩ (fl 0))).mono ?_; rw [hE.out]; rintro e2 w4 ⟨rfl, hbw4⟩; obtain ⟨hcw4, hfw4⟩ := bcell hbw4; have hzw4 := hbw4.size; (try simp at hzw4); have hk0w4 : w.heap.size < w4.heap.size := (by omega); have hk1w4 : w.heap.size + 1 < w4.heap.size := (by omega); have hk2w4 : w.heap.size + 1 + 1 < w4.heap.size := (by omega)))
  have B4 : Below w2.heap.size w2 w4 := by
    clear B2
    exact by repeat (first | exact Below.refl _ _ | assumption | exact Go.Proofs.YtdipalinddfekaaGreatDoor.V.below_drewN _ _ | (refine bel_trans ?_ (Go.Proofs.YtdipalinddfekaaGreatDoor.V.below_drewN _ _)) | (refine bel_trans ?_ (by assumption)) | (with_reducible apply bel_alloc) | (with_reducible apply Below.drew) | apply bel_alloc | apply Below.drew | refine bel_set ?_ (by simp; try omega) _)
  have HX4 := Lib.hid (HX3.out.below B4)
  have B4' : Hid (Below w.heap.size w w4) := bel_trans B2.out B4
  have HL4 := Lib.hid (HL.out.below B4'.out)
  have f0 := (B4.cell (p := ⟨w.heap.size, 0, none⟩) hk0w2).trans d0
  have f1 := (B4.cell (p := ⟨w.heap.size, 1, none⟩) hk0w2).trans d1
  have f2 := (B4.cell (p := ⟨w.heap.size, 2, none⟩) hk0w2).trans d2
  have f3 := (B4.cell (p := ⟨w.heap.size, 3, none⟩) hk0w2).trans d3
  have f5 := (B4.cell (p := ⟨w.heap.size + 1, 0, none⟩) hk1w2).trans d5
  clear d0 d1 d2 d3 d4 d5 hcw3 hfw3 hzw3 hbw3 hcw4 hfw4 hzw4 hbw4 HX3 B4 B2
  have HLq := HL4
  have F0 := f0
  have F1 := f1
  have F2 := f2
  have F3 := f3
  have F5 := f5
  go_wp2_with fail
  refine region_far (by kernel_rfl) (by kernel_rfl) ?_
  repeat (go_big_quiet_step ((first | (go_at_call 54; with_reducible exact call_far (c_null _)))))
  refine wpQuiet_nil ?_
  intro wq5 hbq5
  have B5 : Hid (Below w.heap.size w wq5) := bel_trans B4'.out hbq5
  have X5 := Lib.hid (HX4.out.below hbq5)
  have L5 := Lib.hid (HL.out.below B5.out)
  have g50 := (hbq5.cell (p := ⟨w.heap.size, 0, none⟩) hk0w4).trans F0
  have g51 := (hbq5.cell (p := ⟨w.heap.size, 1, none⟩) hk0w4).trans F1
  have g52 := (hbq5.cell (p := ⟨w.heap.size, 2, none⟩) hk0w4).trans F2
  have g53 := (hbq5.cell (p := ⟨w.heap.size, 3, none⟩) hk0w4).trans F3
  have g55 := (hbq5.cell (p := ⟨w.heap.size + 1, 0, none⟩) hk1w4).trans F5
  have hk0wq5 : w.heap.size < wq5.heap.size := Nat.lt_of_lt_of_le hk0w4 hbq5.size
  have hk1wq5 : w.heap.size + 1 < wq5.heap.size := Nat.lt_of_lt_of_le hk1w4 hbq5.size
  have hk2wq5 : w.heap.size + 1 + 1 < wq5.heap.size := Nat.lt_of_lt_of_le hk2w4 hbq5.size
  clear hbq5 F0 F1 F2 F3 F5
  have F0 := g50
  have F1 := g51
  have F2 := g52
  have F3 := g53
  have F5 := g55
  by_cases hz : n = 0
  · have HR : Hid (inL nul false (l.map fun x => hd x.2) = bo false) := by
      show _ = _
      have e : l = [] := List.eq_nil_of_length_eq_zero (by rw [← hlen.out]; exact hz)
      rw [e]; rfl
    subst hz
    go_wp2_with fail
    refine region_far (by kernel_rfl) (by kernel_rfl) ?_
    repeat (go_big_quiet_step ((first | (go_at_call 54; with_reducible exact call_far (c_null _)))))
    refine wpQuiet_nil ?_
    intro wq6 hbq6
    have B6 : Hid (Below w.heap.size w wq6) := bel_trans B5.out hbq6
    have X6 := Lib.hid (X5.out.below hbq6)
    have L6 := Lib.hid (HL.out.below B6.out)
    have g60 := (hbq6.cell (p := ⟨w.heap.size, 0, none⟩) hk0wq5).trans F0
    have g61 := (hbq6.cell (p := ⟨w.heap.size, 1, none⟩) hk0wq5).trans F1
    have g62 := (hbq6.cell (p := ⟨w.heap.size, 2, none⟩) hk0wq5).trans F2
    have g63 := (hbq6.cell (p := ⟨w.heap.size, 3, none⟩) hk0wq5).trans F3
    have g65 := (hbq6.cell (p := ⟨w.heap.size + 1, 0, none⟩) hk1wq5).trans F5
    have hk0wq6 : w.heap.size < wq6.heap.size := Nat.lt_of_lt_of_le hk0wq5 hbq6.size
    have hk1wq6 : w.heap.size + 1 < wq6.heap.size := Nat.lt_of_lt_of_le hk1wq5 hbq6.size
    have hk2wq6 : w.heap.size + 1 + 1 < wq6.heap.size := Nat.lt_of_lt_of_le hk2wq5 hbq6.size
    clear hbq6 F0 F1 F2 F3 F5
    go_wp2_with fail
    refine (c_truth_f _).mono ?_
    rintro e3 w9 ⟨rfl, hb9⟩
    obtain ⟨hx9, p0, p1, p2, p3, q0, q1, q2, q3⟩ := X6.out.below hb9
    have B9 : Hid (Below w.heap.size w w9) := bel_trans B6.out hb9
    clear hb9
    go_wp2
    exact bodyPost_ret (v := ov 3 0 ⟨#[]⟩ 0) (by simp [results, Tryz.results30, go_sem, *]) rfl ⟨ret_v (by rw [HR.out]; try rfl), bel_set (bel_set (bel_set (bel_set B9.out (by simp; omega) _) (by simp; omega) _) (by simp; omega) _) (by simp; omega) _⟩
  · have HR : Hid (inL nul false (l.map fun x => hd x.2) = nul) := by
      show _ = _
      rw [inL_null nul rfl, if_neg]
      intro e
      have := congrArg List.length e
      rw [List.length_map, ← hlen.out] at this
      exact hz this
    have hp : (n : Int) > 0 := by omega
    have hp2 : (0 : Int) < n := by omega
    have hp0 : 0 < n := by omega
    have hp4 : decide ((0 : Int) < n) = true := by simp; omega
    have hp5 : decide ((n : Int) > 0) = true := by simp; omega
    have hp6 : decide (0 < n) = true := by simp; omega
    go_wp2_with fail
    refine region_far (by kernel_rfl) (by kernel_rfl) ?_
    repeat (go_big_quiet_step ((first | (go_at_call 54; with_reducible exact call_far (c_null _)))))
    refine wpQuiet_nil ?_
    intro wq6 hbq6
    have B6 : Hid (Below w.heap.size w wq6) := bel_trans B5.out hbq6
    have X6 := Lib.hid (X5.out.below hbq6)
    have L6 := Lib.hid (HL.out.below B6.out)
    have g60 := (hbq6.cell (p := ⟨w.heap.size, 0, none⟩) hk0wq5).trans F0
    have g61 := (hbq6.cell (p := ⟨w.heap.size, 1, none⟩) hk0wq5).trans F1
    have g62 := (hbq6.cell (p := ⟨w.heap.size, 2, none⟩) hk0wq5).trans F2
    have g63 := (hbq6.cell (p := ⟨w.heap.size, 3, none⟩) hk0wq5).trans F3
    have g65 := (hbq6.cell (p := ⟨w.heap.size + 1, 0, none⟩) hk1wq5).trans F5
    have hk0wq6 : w.heap.size < wq6.heap.size := Nat.lt_of_lt_of_le hk0wq5 hbq6.size
    have hk1wq6 : w.heap.size + 1 < wq6.heap.size := Nat.lt_of_lt_of_le hk1wq5 hbq6.size
    have hk2wq6 : w.heap.size + 1 + 1 < wq6.heap.size := Nat.lt_of_lt_of_le hk2wq5 hbq6.size
    clear hbq6 F0 F1 F2 F3 F5
    go_wp2_with fail
    refine (c_null _).mono ?_
    rintro e3 w9 ⟨rfl, hb9⟩
    obtain ⟨hx9, p0, p1, p2, p3, q0, q1, q2, q3⟩ := X6.out.below hb9
    have B9 : Hid (Below w.heap.size w w9) := bel_trans B6.out hb9
    clear hb9
    go_wp2
    exact bodyPost_ret (v := ov 0 0 ⟨#[]⟩ 0) (by simp [results, Tryz.results30, go_sem, *]) rfl ⟨ret_v (by rw [HR.out]; try rfl), bel_set (bel_set (bel_set (bel_set B9.out (by simp; omega) _) (by simp; omega) _) (by simp; omega) _) (by simp; omega) _⟩

set_option maxRecDepth 100000 in
set_option maxHeartbeats 4000000 in
theorem c_In_some (x : Ot) (he : x.e = 0) (hx : x.ok = true) (hk : ¬ x.k = 0) (a : Option Addr) (n c : Nat) (l : List Rw) (hn : n ≤ 9223372036854775807) (hc : okCol 0 (l.map (·.2)) = true) (w : World) (h : Rows2 w a n l) : Ret 30 #[ov x.k x.n x.s 0, outV a n c 0] w (enc (inL x false (l.map fun x => hd x.2))) := by
  have HL := Lib.hid h
  have HV : Hid (∀ v ∈ l.map fun x => hd x.2, vOk v = true) := by
    intro v hv
    obtain ⟨y, hy, rfl⟩ := List.mem_map.1 hv
    unfold okCol okOut at hc
    rw [if_pos rfl, Bool.and_eq_true] at hc
    have h1 := List.all_eq_true.1 hc.1 y.2 (List.mem_map.2 ⟨y, hy, rfl⟩)
    have h2 := List.all_eq_true.1 hc.2 y.2 (List.mem_map.2 ⟨y, hy, rfl⟩)
    match y.2, h1, h2 with
    | [u], h1, _ => simpa [hd] using h1
  have HI := Lib.hid (in_is he hx HV.out)
  have hnn : isN x = false := by simp [isN, hk]
  rw [hnn, List.length_map, ← h.one.len] at HI
  have HX : Hid ((⟨x.k, x.n, x.s, 0⟩ : Ot).ok = true) := by rw [← he]; exact hx
  have HO := Lib.hid hc
  have H1 : Hid (∀ x ∈ l, x.2.length = 1) := by
    intro y hy
    unfold okCol at hc
    rw [Bool.and_eq_true] at hc
    have := List.all_eq_true.1 hc.2 y.2 (List.mem_map.2 ⟨y, hy, rfl⟩)
    simpa using this
  have hE : Hid (errs 0 [(⟨x.k, x.n, x.s, 0⟩ : Ot), fl 0] = 0) := by show _ = _; rw [errs_two]; rfl
  have hlen := Lib.hid h.one.len
  clear h hc
  go_enter Tryz.func30, Tryz.ntmps30
  go_wp2_with fail
  refine (c_isValid ⟨x.k, x.n, x.s, 0⟩ _).mono ?_; rintro e w1 ⟨rfl, hbw1⟩; obtain ⟨hcw1, hfw1⟩ := bcell hbw1; have hzw1 := hbw1.size; (try simp at hzw1); have hk0w1 : w.heap.size < w1.heap.size := (by omega); have hk1w1 : w.heap.size + 1 < w1.heap.size := (by omega); have hk2w1 : w.heap.size + 1 + 1 < w1.heap.size := (by omega)
  rw [HX.out]
  have B1 : Below w.heap.size w w1 := by repeat (first | exact Below.refl _ _ | assumption | exact Go.Proofs.YtdipalinddfekaaGreatDoor.V.below_drewN _ _ | (refine bel_trans ?_ (Go.Proofs.YtdipalinddfekaaGreatDoor.V.below_drewN _ _)) | (refine bel_trans ?_ (by assumption)) | (with_reducible apply bel_alloc) | (with_reducible apply Below.drew) | apply bel_alloc | apply Below.drew | refine bel_set ?_ (by simp; try omega) _)
  go_wp2_with fail
  refine (c_isColumn a n c 0 l hn _ (HL.out.below B1)).mono ?_; rintro e w2 ⟨rfl, hbw2⟩; obtain ⟨hcw2, hfw2⟩ := bcell hbw2; have hzw2 := hbw2.size; (try simp at hzw2); have hk0w2 : w.heap.size < w2.heap.size := (by omega); have hk1w2 : w.heap.size + 1 < w2.heap.size := (by omega); have hk2w2 : w.heap.size + 1 + 1 < w2.heap.size := (by omega)
  rw [HO.out]
  have B2 : Hid (Below w.heap.size w w2) := bel_trans B1 hbw2
  have d0 : w2.cell? ⟨w.heap.size, 0, none⟩ = some (.int .u8 x.k) := by simp [*, go_sem, World.cell?_alloc_past]
  have d1 : w2.cell? ⟨w.heap.size, 1, none⟩ = some (.int .i64 x.n) := by simp [*, go_sem, World.cell?_alloc_past]
  have d2 : w2.cell? ⟨w.heap.size, 2, none⟩ = some (.string x.s) := by simp [*, go_sem, World.cell?_alloc_past]
  have d3 : w2.cell? ⟨w.heap.size, 3, none⟩ = some (.int .i64 0) := by simp [*, go_sem, World.cell?_alloc_past]
  have d4 : w2.cell? ⟨w.heap.size + 1, 1, none⟩ = some (.int .i64 0) := by simp [*, go_sem, World.cell?_alloc_past]
  have d5 : w2.cell? ⟨w.heap.size + 1, 0, none⟩ = some (.slice a n c) := by simp [*, go_sem, World.cell?_alloc_past]
  have HX3 : Hid (Box w2 (w.heap.size + 1 + 1) nul) := by
    constructor <;> simp [*, go_sem, World.cell?_alloc_past, World.frozen?_alloc_past]
  clear hcw1 hfw1 hzw1 hk0w1 hk1w1 hk2w1 hcw2 hfw2 hzw2 hbw2 B1 hbw1
  go_wp2_with fail
  go_region_held3 (fun w' => w'.cell? ⟨w.heap.size, 0, none⟩ = some (.int .u8 x.k) ∧ w'.cell? ⟨w.heap.size, 1, none⟩ = some (.int .i64 x.n) ∧ w'.cell? ⟨w.heap.size, 2, none⟩ = some (.string x.s) ∧ w'.cell? ⟨w.heap.size, 3, none⟩ = some (.int .i64 0) ∧ w'.cell? ⟨w.heap.size + 1, 1, none⟩ = some (.int .i64 0)) (simp [*, go_sem, World.cell?_alloc_past, (show w2.drew.heap.size = w2.heap.size from rfl)])
    (first | (go_at_call 24; refine (c_failing 0 _).mono ?_; rintro e w3 ⟨rfl, hbw3⟩; obtain ⟨hcw3, hfw3⟩ := bcell hbw3; have hzw3 := hbw3.size; (try simp at hzw3); have hk0w3 : w.heap.size < w3.heap.size := (by omega); have hk1w3 : w.heap.size + 1 < w3.heap.size := (by omega); have hk2w3 : w.heap.size + 1 + 1 < w3.heap.size := (by omega)) | (go_at_call 57; refine (c_least _ 2 2 [⟨x.k, x.n, x.s, 0⟩, fl 0] (by omega) _ (outs_two _ ⟨x.k, x.n, x.s, 0⟩ (fl 0))).mono ?_; rw [hE.out]; rintro e2 w4 ⟨rfl, hbw4⟩; obtain ⟨hcw4, hfw4⟩ := bcell hbw4; have hzw4 := hbw4.size; (try simp at hzw4); have hk0w4 : w.heap.size < w4.heap.size := (by omega); have hk1w4 : w.heap.size + 1 < w4.heap.size := (by omega); have hk2w4 : w.heap.size + 1 + 1 < w4.heap.size := (by omega)))
  have B4 : Below w2.heap.size w2 w4 := by
    clear B2
    exact by repeat (first | exact Below.refl _ _ | assumption | exact Go.Proofs.YtdipalinddfekaaGreatDoor.V.below_drewN _ _ | (refine bel_trans ?_ (Go.Proofs.YtdipalinddfekaaGreatDoor.V.below_drewN _ _)) | (refine bel_trans ?_ (by assumption)) | (with_reducible apply bel_alloc) | (with_reducible apply Below.drew) | apply bel_alloc | apply Below.drew | refine bel_set ?_ (by simp; try omega) _)
  have HX4 := Lib.hid (HX3.out.below B4)
  have B4' : Hid (Below w.heap.size w w4) := bel_trans B2.out B4
  have HL4 := Lib.hid (HL.out.below B4'.out)
  have f0 := (B4.cell (p := ⟨w.heap.size, 0, none⟩) hk0w2).trans d0
  have f1 := (B4.cell (p := ⟨w.heap.size, 1, none⟩) hk0w2).trans d1
  have f2 := (B4.cell (p := ⟨w.heap.size, 2, none⟩) hk0w2).trans d2
  have f3 := (B4.cell (p := ⟨w.heap.size, 3, none⟩) hk0w2).trans d3
  have f5 := (B4.cell (p := ⟨w.heap.size + 1, 0, none⟩) hk1w2).trans d5
  clear d0 d1 d2 d3 d4 d5 hcw3 hfw3 hzw3 hbw3 hcw4 hfw4 hzw4 hbw4 HX3 B4 B2
  have HLq := HL4
  clear he hx hnn
  generalize hr1 : (l.map fun x => hd x.2).any (fun u => sameV u (x.k, x.n, x.s)) = r1 at HI
  have hr1 := Lib.hid hr1
  have F0 := f0
  have F1 := f1
  have F2 := f2
  have F3 := f3
  have F5 := f5
  go_wp2_with fail
  refine region_far (by kernel_rfl) (by kernel_rfl) ?_
  repeat (go_big_quiet_step ((first | (go_at_call 54; with_reducible exact call_far (c_null _)) | (go_at_call 62; with_reducible exact call_far (c_has ((x.k, x.n, x.s)) a n c 0 l hn (w.heap.size + 1) _ (HLq.out.below (below_far _ _)) H1.out (((below_far _ _).cell (p := ⟨w.heap.size + 1, 0, none⟩) hk1w4).trans f5))))))
  refine wpQuiet_nil ?_
  rw [hr1.out]
  intro wq5 hbq5
  have B5 : Hid (Below w.heap.size w wq5) := bel_trans B4'.out hbq5
  have X5 := Lib.hid (HX4.out.below hbq5)
  have L5 := Lib.hid (HL.out.below B5.out)
  have g50 := (hbq5.cell (p := ⟨w.heap.size, 0, none⟩) hk0w4).trans F0
  have g51 := (hbq5.cell (p := ⟨w.heap.size, 1, none⟩) hk0w4).trans F1
  have g52 := (hbq5.cell (p := ⟨w.heap.size, 2, none⟩) hk0w4).trans F2
  have g53 := (hbq5.cell (p := ⟨w.heap.size, 3, none⟩) hk0w4).trans F3
  have g55 := (hbq5.cell (p := ⟨w.heap.size + 1, 0, none⟩) hk1w4).trans F5
  have hk0wq5 : w.heap.size < wq5.heap.size := Nat.lt_of_lt_of_le hk0w4 hbq5.size
  have hk1wq5 : w.heap.size + 1 < wq5.heap.size := Nat.lt_of_lt_of_le hk1w4 hbq5.size
  have hk2wq5 : w.heap.size + 1 + 1 < wq5.heap.size := Nat.lt_of_lt_of_le hk2w4 hbq5.size
  clear hbq5 F0 F1 F2 F3 F5
  have F0 := g50
  have F1 := g51
  have F2 := g52
  have F3 := g53
  have F5 := g55
  cases r1 with
  | true =>
    have HR : Hid (inL x false (l.map fun x => hd x.2) = bo true) := by show _ = _; rw [HI.out]; rfl
    go_wp2_with fail
    refine (c_truth_t _).mono ?_
    rintro e3 w9 ⟨rfl, hb9⟩
    obtain ⟨hx9, p0, p1, p2, p3, q0, q1, q2, q3⟩ := X5.out.below hb9
    have B9 : Hid (Below w.heap.size w w9) := bel_trans B5.out hb9
    clear hb9
    go_wp2
    exact bodyPost_ret (v := ov 3 1 ⟨#[]⟩ 0) (by simp [results, Tryz.results30, go_sem, *]) rfl ⟨ret_v (by rw [HR.out]; try rfl), bel_set (bel_set (bel_set (bel_set B9.out (by simp; omega) _) (by simp; omega) _) (by simp; omega) _) (by simp; omega) _⟩
  | false =>
    by_cases hz : n = 0
    · have HR : Hid (inL x false (l.map fun x => hd x.2) = bo false) := by show _ = _; rw [HI.out, hz]; rfl
      subst hz
      clear HI
      go_wp2_with fail
      refine region_far (by kernel_rfl) (by kernel_rfl) ?_
      repeat (go_big_quiet_step ((first | (go_at_call 54; with_reducible exact call_far (c_null _)))))
      refine wpQuiet_nil ?_
      intro wq6 hbq6
      have B6 : Hid (Below w.heap.size w wq6) := bel_trans B5.out hbq6
      have X6 := Lib.hid (X5.out.below hbq6)
      have L6 := Lib.hid (HL.out.below B6.out)
      have g60 := (hbq6.cell (p := ⟨w.heap.size, 0, none⟩) hk0wq5).trans F0
      have g61 := (hbq6.cell (p := ⟨w.heap.size, 1, none⟩) hk0wq5).trans F1
      have g62 := (hbq6.cell (p := ⟨w.heap.size, 2, none⟩) hk0wq5).trans F2
      have g63 := (hbq6.cell (p := ⟨w.heap.size, 3, none⟩) hk0wq5).trans F3
      have g65 := (hbq6.cell (p := ⟨w.heap.size + 1, 0, none⟩) hk1wq5).trans F5
      have hk0wq6 : w.heap.size < wq6.heap.size := Nat.lt_of_lt_of_le hk0wq5 hbq6.size
      have hk1wq6 : w.heap.size + 1 < wq6.heap.size := Nat.lt_of_lt_of_le hk1wq5 hbq6.size
      have hk2wq6 : w.heap.size + 1 + 1 < wq6.heap.size := Nat.lt_of_lt_of_le hk2wq5 hbq6.size
      clear hbq6 F0 F1 F2 F3 F5
      go_wp2_with fail
      refine (c_truth_f _).mono ?_
      rintro e3 w9 ⟨rfl, hb9⟩
      obtain ⟨hx9, p0, p1, p2, p3, q0, q1, q2, q3⟩ := X6.out.below hb9
      have B9 : Hid (Below w.heap.size w w9) := bel_trans B6.out hb9
      clear hb9
      go_wp2
      exact bodyPost_ret (v := ov 3 0 ⟨#[]⟩ 0) (by simp [results, Tryz.results30, go_sem, *]) rfl ⟨ret_v (by rw [HR.out]; try rfl), bel_set (bel_set (bel_set (bel_set B9.out (by simp; omega) _) (by simp; omega) _) (by simp; omega) _) (by simp; omega) _⟩
    · have hp : (n : Int) > 0 := by omega
      have hp2 : (0 : Int) < n := by omega
      have hp0 : 0 < n := by omega
      have hp4 : decide ((0 : Int) < n) = true := by simp; omega
      have hp5 : decide ((n : Int) > 0) = true := by simp; omega
      have hp3 : decide (0 < n) = true := by simp; omega
      generalize hr2 : (l.map fun x => hd x.2).any (fun u => sameV u (0, 0, ⟨#[]⟩)) = r2 at HI
      have hr2 := Lib.hid hr2
      have HR0 : Hid (inL x false (l.map fun x => hd x.2) = if r2 then nul else bo false) := by show _ = _; rw [HI.out, hp3]; rfl
      clear HI HLq
      have HLq := L5
      have hfld : ∀ a b c d w, (Instr.field 29 (.agg #[a, b, c, d]) 0).run Tryz.prog w = .ok (.agg #[a, b, c]) w := fun _ _ _ _ _ => by kernel_rfl
      go_wp2_with fail
      refine region_far (by kernel_rfl) (by kernel_rfl) ?_
      repeat (go_big_quiet_step ((first | (go_at_call 54; with_reducible exact call_far (c_null _)) | (go_at_call 62; with_reducible exact call_far (c_has ((0, 0, ⟨#[]⟩)) a n c 0 l hn (w.heap.size + 1) _ (HLq.out.below (below_far _ _)) H1.out (((below_far _ _).cell (p := ⟨w.heap.size + 1, 0, none⟩) hk1wq5).trans g55))))))
      refine wpQuiet_nil ?_
      rw [hr2.out]
      intro wq6 hbq6
      have B6 : Hid (Below w.heap.size w wq6) := bel_trans B5.out hbq6
      have X6 := Lib.hid (X5.out.below hbq6)
      have L6 := Lib.hid (HL.out.below B6.out)
      have g60 := (hbq6.cell (p := ⟨w.heap.size, 0, none⟩) hk0wq5).trans F0
      have g61 := (hbq6.cell (p := ⟨w.heap.size, 1, none⟩) hk0wq5).trans F1
      have g62 := (hbq6.cell (p := ⟨w.heap.size, 2, none⟩) hk0wq5).trans F2
      have g63 := (hbq6.cell (p := ⟨w.heap.size, 3, none⟩) hk0wq5).trans F3
      have g65 := (hbq6.cell (p := ⟨w.heap.size + 1, 0, none⟩) hk1wq5).trans F5
      have hk0wq6 : w.heap.size < wq6.heap.size := Nat.lt_of_lt_of_le hk0wq5 hbq6.size
      have hk1wq6 : w.heap.size + 1 < wq6.heap.size := Nat.lt_of_lt_of_le hk1wq5 hbq6.size
      have hk2wq6 : w.heap.size + 1 + 1 < wq6.heap.size := Nat.lt_of_lt_of_le hk2wq5 hbq6.size
      clear hbq6 F0 F1 F2 F3 F5
      cases r2 with
      | true =>
        have HR : Hid (inL x false (l.map fun x => hd x.2) = nul) := HR0.out
        go_wp2_with fail
        refine (c_null _).mono ?_
        rintro e3 w9 ⟨rfl, hb9⟩
        obtain ⟨hx9, p0, p1, p2, p3, q0, q1, q2, q3⟩ := X6.out.below hb9
        have B9 : Hid (Below w.heap.size w w9) := bel_trans B6.out hb9
        clear hb9
        go_wp2
        exact bodyPost_ret (v := ov 0 0 ⟨#[]⟩ 0) (by simp [results, Tryz.results30, go_sem, *]) rfl ⟨ret_v (by rw [HR.out]; try rfl), bel_set (bel_set (bel_set (bel_set B9.out (by simp; omega) _) (by simp; omega) _) (by simp; omega) _) (by simp; omega) _⟩
      | false =>
        have HR : Hid (inL x false (l.map fun x => hd x.2) = bo false) := HR0.out
        go_wp2_with fail
        refine (c_truth_f _).mono ?_
        rintro e3 w9 ⟨rfl, hb9⟩
        obtain ⟨hx9, p0, p1, p2, p3, q0, q1, q2, q3⟩ := X6.out.below hb9
        have B9 : Hid (Below w.heap.size w w9) := bel_trans B6.out hb9
        clear hb9
        go_wp2
        exact bodyPost_ret (v := ov 3 0 ⟨#[]⟩ 0) (by simp [results, Tryz.results30, go_sem, *]) rfl ⟨ret_v (by rw [HR.out]; try rfl), bel_set (bel_set (bel_set (bel_set B9.out (by simp; omega) _) (by simp; omega) _) (by simp; omega) _) (by simp; omega) _⟩

theorem c_In (x : Ot) (a : Option Addr) (n c : Nat) (e : Int) (l : List Rw) (hn : n ≤ 9223372036854775807) (w : World) (h : Rows2 w a n l) : Ret 30 #[enc x, outV a n c e] w (enc (inO x e (l.map (·.2)))) := by
  unfold inO
  cases hc : x.ok && okCol e (l.map (·.2)) with
  | false => exact c_In_no x a n c e l hn hc w h
  | true =>
    have hc2 := hc
    rw [Bool.and_eq_true] at hc2
    by_cases he : lst x.e e = 0
    · rw [if_pos rfl, if_neg (by simpa using he), ← heads]
      have hx := hc2.1
      have hee : x.e = 0 ∧ e = 0 := by
        unfold lst at he
        have h1 : x.e = 0 ∨ isErr x.e = true := by
          by_cases h0 : x.e = 0
          · exact .inl h0
          · exact .inr (ok_fails hx h0).1
        have h2 : e = 0 ∨ isErr e = true := by
          by_cases h0 : e = 0
          · exact .inl h0
          · have := hc2.2
            unfold okCol okOut at this
            rw [if_neg h0] at this
            simp at this
            exact .inr this.1.1
        have h3 : x.e = 0 ∨ x.e = 3 ∨ x.e = 4 ∨ x.e = 5 ∨ x.e = 6 := h1.imp id err_cases
        have h4 : e = 0 ∨ e = 3 ∨ e = 4 ∨ e = 5 ∨ e = 6 := h2.imp id err_cases
        split at he <;> omega
      obtain ⟨he1, rfl⟩ := hee
      by_cases hk : x.k = 0
      · have : x = nul := ok_null hx (by simp [isN, he1, hk])
        subst this
        exact c_In_null a n c l hn hc2.2 w h
      · obtain ⟨xk, xn, xs, xe⟩ := x
        simp only at he1
        subst he1
        exact c_In_some ⟨xk, xn, xs, 0⟩ rfl hx hk a n c l hn hc2.2 w h
    · rw [if_pos rfl, if_pos he]
      exact c_In_err x a n c e l hn hc2.1 hc2.2 he w h
end Go.Proofs.YtdipalinddfekaaGreatDoor.K
