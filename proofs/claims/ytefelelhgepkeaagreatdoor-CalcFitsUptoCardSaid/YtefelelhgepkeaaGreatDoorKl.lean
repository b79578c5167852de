/- AND and OR: the loops over conditions. -/
import Derived.Test.YtefelelhgepkeaaGreatDoorKg
import Derived.Test.YtefelelhgepkeaaGreatDoorCmp
namespace Go.Proofs.YtefelelhgepkeaaGreatDoor.K
open Go.ChangeShapes Go.WideShapes Go.ChangeAt Go.RowKit Go.Proofs.YtefelelhgepkeaaGreatDoor.V
theorem l_cmpE (a b : Int) (w : World) : Calls Tryz.prog 84 #[.int .i64 a, .int .i64 b] w fun e w' => e = .returned (.int .i64 (cmpI a b)) ∧ w = w' := by
  go_enter Tryz.func84, Tryz.ntmps84
  go_wp2
  all_goals (go_ret; exact ⟨ret_int (by unfold cmpI; omega), rfl⟩)
theorem l_cmpN (a b : Int) (w : World) : Calls Tryz.prog 82 #[.int .i64 a, .int .i64 b] w fun e w' => e = .returned (.int .i64 (cmpI a b)) ∧ w = w' := by
  go_enter Tryz.func82, Tryz.ntmps82
  go_wp2
  all_goals (go_ret; exact ⟨ret_int (by unfold cmpI; omega), rfl⟩)
/-- The place of a condition in AND's chain. -/
def pl (o : Ot) : Int := if o.e ≠ 0 then 2 else if o.k = 0 then 1 else if o.n = 0 then 0 else 3
theorem c_place (o : Ot) (h : tr o = true) (w : World) : Ret 83 #[enc o] w (.int .i64 (pl o)) := by
  rcases tr_cases h with rfl | rfl | rfl | ⟨e, he, rfl⟩
  · exact c_place_n w
  · exact c_place_t w
  · exact c_place_f w
  · have : e ≠ 0 := by have := err_cases he; omega
    have hp : pl (fl e) = 2 := by simp [pl, this]
    rw [hp]
    exact c_place_e e (by simpa using this) w
theorem pl_rk {o f : Ot} (ho : tr o = true) (hf : tr f = true) : decide (orI (cmpI (pl o) (pl f)) (cmpI o.e f.e) < 0) = decide (rk false o < rk false f) := by
  rw [decide_eq_decide]
  rcases tr_cases ho with rfl | rfl | rfl | ⟨e, he, rfl⟩ <;> rcases tr_cases hf with rfl | rfl | rfl | ⟨e', he', rfl⟩
  all_goals (try have h1 := err_cases he)
  all_goals (try have h2 := err_cases he')
  all_goals (try (have h3 : e ≠ 0 := by omega))
  all_goals (try (have h4 : e' ≠ 0 := by omega))
  all_goals simp [pl, rk, orI, cmpI, *]
  all_goals (try omega)
/-- A box holds this out, and may be written. -/
structure Box (W : World) (b : Nat) (o : Ot) : Prop where
  lt : b < W.heap.size
  c0 : W.cell? ⟨b, 0, none⟩ = some (.int .u8 o.k)
  c1 : W.cell? ⟨b, 1, none⟩ = some (.int .i64 o.n)
  c2 : W.cell? ⟨b, 2, none⟩ = some (.string o.s)
  c3 : W.cell? ⟨b, 3, none⟩ = some (.int .i64 o.e)
  f0 : W.frozen? ⟨b, 0, none⟩ = false
  f1 : W.frozen? ⟨b, 1, none⟩ = false
  f2 : W.frozen? ⟨b, 2, none⟩ = false
  f3 : W.frozen? ⟨b, 3, none⟩ = false
theorem Box.below {W W' : World} {b : Nat} {o : Ot} (h : Box W b o) (hb : Below W.heap.size W W') : Box W' b o := by
  obtain ⟨h0, h1, h2, h3, h4, h5, h6, h7, h8⟩ := h
  exact ⟨Nat.lt_of_lt_of_le h0 hb.size, (hb.cell (p := ⟨b, _, none⟩) h0).trans h1, (hb.cell (p := ⟨b, _, none⟩) h0).trans h2, (hb.cell (p := ⟨b, _, none⟩) h0).trans h3, (hb.cell (p := ⟨b, _, none⟩) h0).trans h4,
    (hb.frozen (p := ⟨b, _, none⟩) h0).trans h5, (hb.frozen (p := ⟨b, _, none⟩) h0).trans h6, (hb.frozen (p := ⟨b, _, none⟩) h0).trans h7, (hb.frozen (p := ⟨b, _, none⟩) h0).trans h8⟩
theorem Box.new (W : World) (o : Ot) : Box (box W o.k o.n o.s o.e) W.heap.size o := by
  constructor <;> simp [go_sem]
theorem Box.alloc {W : World} {b : Nat} {o : Ot} (h : Box W b o) (x : Obj) : Box (W.alloc x) b o := h.below ((Below.refl _ W).alloc (Nat.le_refl _) x)
/-- The box written anew. -/
abbrev put4 (W : World) (b : Nat) (o : Ot) : World := (((W.setCell ⟨b, 0, none⟩ (.int .u8 o.k)).setCell ⟨b, 1, none⟩ (.int .i64 o.n)).setCell ⟨b, 2, none⟩ (.string o.s)).setCell ⟨b, 3, none⟩ (.int .i64 o.e)
theorem Box.put {W : World} {b : Nat} {f : Ot} (h : Box W b f) (o : Ot) : Box (put4 W b o) b o := by
  obtain ⟨h0, h1, h2, h3, h4, h5, h6, h7, h8⟩ := h
  constructor <;> simp [go_sem, *]
theorem Box.other {W : World} {b b' : Nat} {f : Ot} (h : Box W b f) (o : Ot) (hne : b ≠ b') : Box (put4 W b' o) b f := by
  obtain ⟨h0, h1, h2, h3, h4, h5, h6, h7, h8⟩ := h
  have hne' : ¬ b' = b := fun e => hne e.symm
  constructor <;> simp [go_sem, *]
theorem put4_below {w W : World} (h : Below w.heap.size w W) {b : Nat} (hb : w.heap.size ≤ b) (o : Ot) : Below w.heap.size w (put4 W b o) := bel_set (bel_set (bel_set (bel_set h hb _) hb _) hb _) hb _
theorem andP_drop {l : List Ot} {k : Nat} {o : Ot} (h : l[k]? = some o) (f : Ot) : andP f (l.drop k) = andP (if rk false o < rk false f then o else f) (l.drop (k + 1)) := by
  rw [List.drop_eq_getElem_cons (List.getElem?_eq_some_iff.1 h).1, andP, (List.getElem?_eq_some_iff.1 h).2]
theorem andP_end {l : List Ot} {k : Nat} (h : l.length ≤ k) (f : Ot) : andP f (l.drop k) = f := by rw [List.drop_eq_nil_of_le h]; rfl
set_option maxRecDepth 100000 in
set_option maxHeartbeats 2000000 in
theorem c_and (a : Option Addr) (n c : Nat) (l : List Ot) (hn : n ≤ 9223372036854775807) (ht : l.all tr = true) (w : World) (h : Outs w a n l) : Ret 51 #[.slice a n c] w (enc (andP (bo true) l)) := by
  have HL := Lib.hid h
  have HT := Lib.hid ht
  clear h ht
  go_enter Tryz.func51, Tryz.ntmps51
  go_wp2_with fail
  refine (c_truth_t _).mono ?_; rintro e w1 ⟨rfl, hbw1⟩; obtain ⟨hcw1, hfw1⟩ := bcell hbw1; have hzw1 := hbw1.size; (try simp at hzw1); have hk0w1 : w.heap.size < w1.heap.size := (by omega)
  have HR : Hid (Box (box w1 3 1 ⟨#[]⟩ 0) w.heap.size nul) := ((Box.new w nul).below hbw1).alloc _
  have HF : Hid (Box (box w1 3 1 ⟨#[]⟩ 0) w1.heap.size (bo true)) := Box.new w1 (bo true)
  have HB : Hid (Below w.heap.size w (box w1 3 1 ⟨#[]⟩ 0)) := by repeat (first | exact Below.refl _ _ | assumption | exact Go.Proofs.YtefelelhgepkeaaGreatDoor.V.below_drewN _ _ | (refine bel_trans ?_ (Go.Proofs.YtefelelhgepkeaaGreatDoor.V.below_drewN _ _)) | (refine bel_trans ?_ (by assumption)) | (with_reducible apply bel_alloc) | (with_reducible apply Below.drew) | apply bel_alloc | apply Below.drew | refine bel_set ?_ (by simp; try omega) _)
  have hq : w.heap.size < w1.heap.size := hk0w1
  clear hcw1 hfw1 hzw1 hk0w1 hbw1
  go_wp2
  go_loopw [9] (fun s9 wr => ∃ (k : Nat) (f : Ot), k ≤ n ∧ s9 = .int .i64 k ∧ Hid (andP f (l.drop k) = andP (bo true) l) ∧ Hid (tr f = true) ∧ Hid (Box wr w.heap.size nul) ∧ Hid (Box wr w1.heap.size f) ∧ Hid (Below w.heap.size w wr)) (fun s9 _ => n - (intOf s9).toNat)
  case atStart => exact ⟨0, bo true, by omega, rfl, rfl, (show tr (bo true) = true by decide +kernel), HR.out, HF.out, HB.out⟩
  case round =>
    clear HR HF HB
    obtain ⟨k, f, hk, rfl, HI, HTf, HR, HF, HB⟩ := hrel
    by_cases hlt : k < n
    · obtain ⟨g, p, o, rfl, hlk, hg, c0, c1, c2, c3⟩ := (HL.out.below HB.out).at_ k hlt
      have HTo : Hid (tr o = true) := List.all_eq_true.1 HT.out o (List.mem_of_getElem? hlk)
      have HI2 := Lib.hid ((andP_drop hlk f).symm.trans HI.out)
      have HP := Lib.hid (pl_rk HTo.out HTf.out)
      obtain ⟨hq1, b0, b1, b2, b3, g0, g1, g2, g3⟩ := HF.out
      obtain ⟨hq2, d0, d1, d2, d3, e0, e1, e2, e3⟩ := HR.out
      clear HI hlk
      go_wp2
      have hq3 : wr.heap.size < (wr.alloc (.cells #[.int .u8 o.k, .int .i64 o.n, .string o.s, .int .i64 o.e] 34)).heap.size := by simp
      go_region_held3 (fun w' => w'.cell? ⟨wr.heap.size, 0, none⟩ = some (.int .u8 o.k) ∧ w'.cell? ⟨wr.heap.size, 1, none⟩ = some (.int .i64 o.n) ∧ w'.cell? ⟨wr.heap.size, 2, none⟩ = some (.string o.s) ∧ w'.cell? ⟨wr.heap.size, 3, none⟩ = some (.int .i64 o.e) ∧
          w'.cell? ⟨w1.heap.size, 0, none⟩ = some (.int .u8 f.k) ∧ w'.cell? ⟨w1.heap.size, 1, none⟩ = some (.int .i64 f.n) ∧ w'.cell? ⟨w1.heap.size, 2, none⟩ = some (.string f.s) ∧ w'.cell? ⟨w1.heap.size, 3, none⟩ = some (.int .i64 f.e)) (simp [*, go_sem, World.cell?_alloc_past])
        (first | (go_at_call 83; with_reducible (refine (c_place o HTo.out _).mono ?_); rintro e w2 ⟨rfl, hb2⟩; obtain ⟨hc2, hf2⟩ := bcell hb2; have hz2 := hb2.size; (try simp at hz2); have hk2 : wr.heap.size < w2.heap.size := (by omega); have hk2' : w1.heap.size < w2.heap.size := (by omega); clear hz2) | (go_at_call 83; with_reducible (refine (c_place f HTf.out _).mono ?_); rintro e w3 ⟨rfl, hb3⟩; obtain ⟨hc3, hf3⟩ := bcell hb3; have hz3 := hb3.size; (try simp at hz3); have hk3 : wr.heap.size < w3.heap.size := (by omega); have hk3' : w1.heap.size < w3.heap.size := (by omega); clear hz3) | (go_at_call 82; refine (l_cmpN _ _ _).mono ?_; rintro e w' ⟨rfl, rfl⟩) | (go_at_call 84; refine (l_cmpE _ _ _).mono ?_; rintro e w' ⟨rfl, rfl⟩) | (go_at_call 81; refine (l_or (cmpI (pl o) (pl f)) (cmpI o.e f.e) _ _ ?_ ?_).mono ?_; (simp [go_sem]); (simp [go_sem]); rintro e w4 ⟨rfl, hb4⟩; obtain ⟨hc4, hf4⟩ := bcell hb4; have hz4 := hb4.size; (try simp at hz4); have hk4 : wr.heap.size < w4.heap.size := (by omega); have hk4' : w1.heap.size < w4.heap.size := (by omega)))
      have B4 : Below wr.heap.size wr w4 := by repeat (first | exact Below.refl _ _ | assumption | exact Go.Proofs.YtefelelhgepkeaaGreatDoor.V.below_drewN _ _ | (refine bel_trans ?_ (Go.Proofs.YtefelelhgepkeaaGreatDoor.V.below_drewN _ _)) | (refine bel_trans ?_ (by assumption)) | (with_reducible apply bel_alloc) | (with_reducible apply Below.drew) | apply bel_alloc | apply Below.drew | refine bel_set ?_ (by simp; try omega) _)
      have HR4 := Lib.hid (HR.out.below B4)
      have HF4 := Lib.hid (HF.out.below B4)
      have HB4 : Hid (Below w.heap.size w w4) := bel_trans HB.out B4
      have HO4 : Hid (Box w4 wr.heap.size o) := by
        have h0 := Box.new wr o
        have h1 : Below (box wr o.k o.n o.s o.e).heap.size (box wr o.k o.n o.s o.e) w4 := by
          clear HB B4 HB4 HR4 HF4
          exact by repeat (first | exact Below.refl _ _ | assumption | exact Go.Proofs.YtefelelhgepkeaaGreatDoor.V.below_drewN _ _ | (refine bel_trans ?_ (Go.Proofs.YtefelelhgepkeaaGreatDoor.V.below_drewN _ _)) | (refine bel_trans ?_ (by assumption)) | (with_reducible apply bel_alloc) | (with_reducible apply Below.drew) | apply bel_alloc | apply Below.drew | refine bel_set ?_ (by simp; try omega) _)
        exact h0.below h1
      clear B4 hb2 hb3 hb4 hc2 hc3 hc4 hf2 hf3 hf4
      cases hr : decide (rk false o < rk false f) with
      | true =>
        have hd := HP.out.trans hr
        have hd2 := of_decide_eq_true hd
        rw [if_pos (of_decide_eq_true hr)] at HI2
        obtain ⟨hq1, b0, b1, b2, b3, g0, g1, g2, g3⟩ := HF4.out
        obtain ⟨hq2, d0, d1, d2, d3, e0, e1, e2, e3⟩ := HO4.out
        clear HP hr
        go_wp2
        exact ⟨⟨k + 1, o, by omega, by go_num, HI2.out, HTo.out, HR4.out.other o (by omega), HF4.out.put o, put4_below HB4.out (by omega) o⟩, by simp [intOf]; omega⟩
      | false =>
        have hd := HP.out.trans hr
        have hd2 := of_decide_eq_false hd
        rw [if_neg (of_decide_eq_false hr)] at HI2
        clear HP hr
        go_wp2
        exact ⟨⟨k + 1, f, by omega, by go_num, HI2.out, HTf.out, HR4.out, HF4.out, HB4.out⟩, by simp [intOf]; omega⟩
    · have he : andP (bo true) l = f := by rw [← HI.out, andP_end (by have := HL.out.len; omega)]
      have HE := Lib.hid he
      obtain ⟨hq1, b0, b1, b2, b3, g0, g1, g2, g3⟩ := HF.out
      obtain ⟨hq2, d0, d1, d2, d3, e0, e1, e2, e3⟩ := HR.out
      clear he HI
      go_wp2
      exact bodyPost_ret (v := ov f.k f.n f.s f.e) (by simp [results, Tryz.results51, go_sem, *]) rfl ⟨ret_v (by rw [HE.out]), put4_below HB.out (Nat.le_refl _) _⟩
end Go.Proofs.YtefelelhgepkeaaGreatDoor.K
