/- The reference's valid outcomes and columns. -/
import Derived.Test.YtefelelhgepkeaaGreatDoorKw
namespace Go.Proofs.YtefelelhgepkeaaGreatDoor.S
open Go.ChangeShapes Go.WideShapes Go.ChangeAt Go.RowKit Go.Proofs.YtefelelhgepkeaaGreatDoor.V Go.Proofs.YtefelelhgepkeaaGreatDoor.K
theorem okr_drop {α : Type} {p : α → Bool} {l : List α} {k : Nat} {x : α} (h : l[k]? = some x) : (l.drop k).all p = (p x && (l.drop (k + 1)).all p) := by
  rw [List.drop_eq_getElem_cons (List.getElem?_eq_some_iff.1 h).1, List.all_cons, (List.getElem?_eq_some_iff.1 h).2]
def rOk (x : Rw) : Bool := x.2.all vOk
theorem okOut0 (l : List Rw) : okOut 0 (l.map (·.2)) = l.all rOk := by
  unfold okOut
  rw [if_pos rfl, List.all_map]; rfl
set_option maxRecDepth 100000 in
set_option maxHeartbeats 4000000 in
theorem r_ValidOutcome (a : Option Addr) (n c : Nat) (e : Int) (l : List Rw) (hn : n ≤ 9223372036854775000) (w : World) (h : Rows2 w a n l) (hr : ∀ x ∈ l, x.1.2.1 ≤ 9223372036854775000) : Ret 56 #[outV a n c e] w (.bool (okOut e (l.map (·.2)))) := by
  have HL := Lib.hid h
  have HM := Lib.hid hr
  have hlen := Lib.hid h.one.len
  clear h hr
  by_cases h0 : e = 0
  · subst h0
    rw [okOut0]
    go_enter Tryz.func56, Tryz.ntmps56
    go_wp2
    go_loopw [3, 4] (fun s3 s4 wr => ∃ (k : Nat), k ≤ n ∧ s3 = .int .i64 k ∧ Hid ((l.drop k).all rOk = l.all rOk) ∧ wr.cell? ⟨w.heap.size, 0, none⟩ = some (.slice a n c) ∧ w.heap.size < wr.heap.size ∧ Hid (Below w.heap.size w wr)) (fun s3 _ _ => n - (intOf s3).toNat)
    case atStart => exact ⟨0, by omega, rfl, rfl, by simp [go_sem], by simp, bel_alloc (Below.refl _ _) _⟩
    case round =>
      obtain ⟨k, hk, rfl, HI, hb0, hbl, HB⟩ := hrel
      by_cases hlt : k < n
      · obtain ⟨g, p, x, rfl, hlk, hg, c0⟩ := (HL.out.below HB.out).one.at_ k hlt
        have HI2 := Lib.hid ((okr_drop (p := rOk) hlk).symm.trans HI.out)
        have hxl : x ∈ l := List.mem_of_getElem? hlk
        have HV := Lib.hid (((HL.out.below HB.out).row x hxl).1)
        have hxm := HM.out x hxl
        obtain ⟨⟨ra, rn, rc⟩, vs⟩ := x
        have c0 : wr.cell? ⟨g, p + k, none⟩ = some (.slice ra rn rc) := c0
        clear HI hlk
        go_wp2
        go_loopw [4] (fun s4 wq => ∃ (j : Nat), j ≤ rn ∧ s4 = .int .i64 j ∧ Hid ((vs.drop j).all vOk = vs.all vOk) ∧ Hid (Below wr.heap.size wr wq)) (fun s4 _ => rn - (intOf s4).toNat)
        case atStart => exact ⟨0, by omega, rfl, rfl, Below.refl _ _⟩
        case round =>
          obtain ⟨j, hj, rfl, HJ, HQ⟩ := hrel
          have b0 := (HQ.out.cell (p := ⟨w.heap.size, 0, none⟩) hbl).trans hb0
          have e0 := (HQ.out.cell (p := ⟨g, p + k, none⟩) hg).trans c0
          by_cases hjt : j < rn
          · obtain ⟨g2, p2, v, hra, hvj, hg2, d0, d1, d2⟩ := (HV.out.below HQ.out).at_ j hjt
            have hra' : ra = some ⟨g2, p2, none⟩ := hra
            subst hra'
            have HJ2 := Lib.hid ((okr_drop (p := vOk) hvj).symm.trans HJ.out)
            obtain ⟨v1, v2, v3⟩ := v
            have hx := fun w => r_Valid v1 v2 v3 w
            clear HJ hvj
            go_wp2_with fail
            refine (hx _).mono ?_
            rintro e w1 ⟨rfl, hb1⟩
            have HQ1 := Lib.hid (bel_trans HQ.out hb1)
            clear hb1 hx
            cases hv : valid v1 v2 v3 with
            | true =>
              have HJ3 : Hid ((vs.drop (j + 1)).all vOk = vs.all vOk) := by
                have := HJ2.out
                rw [show vOk (v1, v2, v3) = true from hv, Bool.true_and] at this
                exact this
              clear HJ2 hv
              go_wp2
              refine ⟨⟨j + 1, by omega, by go_num, HJ3.out, HQ1.out⟩, by simp [intOf]; omega⟩
            | false =>
              have HR : Hid (l.all rOk = false) := by
                have h1 := HJ2.out
                rw [show vOk (v1, v2, v3) = false from hv, Bool.false_and] at h1
                have h2 := HI2.out
                rw [show rOk ((_, rn, rc), vs) = false from h1.symm, Bool.false_and] at h2
                exact h2.symm
              clear HJ2 hv
              go_wp2
              go_ret
              exact ⟨ret_bool HR.out.symm, bel_trans HB.out HQ1.out⟩
          · have HI3 : Hid ((l.drop (k + 1)).all rOk = l.all rOk) := by
              have h1 := HJ.out
              rw [List.drop_eq_nil_of_le (by have := HV.out.len; omega)] at h1
              have h2 := HI2.out
              rw [show rOk ((_, rn, rc), vs) = true from h1.symm, Bool.true_and] at h2
              exact h2
            have hbl2 : w.heap.size < wr.heap.size := Nat.lt_of_lt_of_le hbl HQ.out.size
            have HB2 := Lib.hid (bel_trans HB.out HQ.out)
            clear HJ HI2
            go_wp2
            refine ⟨⟨k + 1, by omega, by go_num, HI3.out, b0, hbl2, HB2.out⟩, by simp [intOf]; omega⟩
      · have he : l.all rOk = true := by rw [← HI.out, List.drop_eq_nil_of_le (by have := hlen.out; omega)]; rfl
        have HE := Lib.hid he
        clear he HI
        go_wp2
        go_ret
        exact ⟨ret_bool HE.out.symm, HB.out⟩
  · have h1 : (e != 0) = true := by simpa using h0
    cases he : isErr e with
    | true =>
      have hR : Hid (((n : Int) == 0) = okOut e (l.map (·.2))) := by
        show _ = _
        unfold okOut
        rw [if_neg h0, he, Bool.true_and, hlen.out]
        cases l <;> simp
        omega
      have HE := Lib.hid he
      clear he
      go_enter Tryz.func56, Tryz.ntmps56
      go_wp2_with fail
      refine (r_IsError _ _).mono ?_; rintro e w1 ⟨rfl, hbw1⟩; obtain ⟨hcw1, hfw1⟩ := bcell hbw1; have hzw1 := hbw1.size; (try simp at hzw1); have hk0w1 : w.heap.size < w1.heap.size := (by omega)
      rw [HE.out]
      go_wp2
      go_ret
      exact ⟨ret_bool hR.out, by repeat (first | exact Below.refl _ _ | assumption | exact Go.Proofs.YtefelelhgepkeaaGreatDoor.V.below_drewN _ _ | (refine bel_trans ?_ (Go.Proofs.YtefelelhgepkeaaGreatDoor.V.below_drewN _ _)) | (refine bel_trans ?_ (by assumption)) | (with_reducible apply bel_alloc) | (with_reducible apply Below.drew) | apply bel_alloc | apply Below.drew | refine bel_set ?_ (by simp; try omega) _)⟩
    | false =>
      have hR : Hid (okOut e (l.map (·.2)) = false) := by
        show _ = _
        unfold okOut
        rw [if_neg h0, he]; rfl
      have HE := Lib.hid he
      clear he
      go_enter Tryz.func56, Tryz.ntmps56
      go_wp2_with fail
      refine (r_IsError _ _).mono ?_; rintro e w1 ⟨rfl, hbw1⟩; obtain ⟨hcw1, hfw1⟩ := bcell hbw1; have hzw1 := hbw1.size; (try simp at hzw1); have hk0w1 : w.heap.size < w1.heap.size := (by omega)
      rw [HE.out]
      go_wp2
      go_ret
      exact ⟨ret_bool (by rw [hR.out]), by repeat (first | exact Below.refl _ _ | assumption | exact Go.Proofs.YtefelelhgepkeaaGreatDoor.V.below_drewN _ _ | (refine bel_trans ?_ (Go.Proofs.YtefelelhgepkeaaGreatDoor.V.below_drewN _ _)) | (refine bel_trans ?_ (by assumption)) | (with_reducible apply bel_alloc) | (with_reducible apply Below.drew) | apply bel_alloc | apply Below.drew | refine bel_set ?_ (by simp; try omega) _)⟩
end Go.Proofs.YtefelelhgepkeaaGreatDoor.S
