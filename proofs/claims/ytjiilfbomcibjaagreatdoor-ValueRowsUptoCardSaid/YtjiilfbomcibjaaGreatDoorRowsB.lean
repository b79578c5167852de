/- Rows compared by package value: slices.CompareFunc with Compare. -/
import Derived.Test.YtjiilfbomcibjaaGreatDoorRowsA
namespace Go.Proofs.YtjiilfbomcibjaaGreatDoor.V
open Go.ChangeShapes Go.WideShapes Go.ChangeAt Go.RowKit Go.Proofs.YtjiilfbomcibjaaGreatDoor.L
set_option maxRecDepth 20000 in
set_option maxHeartbeats 1600000 in
theorem l_CompareFunc (pa pb : Option Addr) (la ca lb cb BA OA BB OB : Nat) (KA NA KB NB : Nat → Int) (SA SB : Nat → ByteArray) (ha : la ≤ 140737488351232) (hb : lb ≤ 140737488351232) (w : World)
    (RA : RowAt w pa la BA OA KA NA SA) (RB : RowAt w pb lb BB OB KB NB SB) :
    Calls Tryz.prog 45 #[.slice pa la ca, .slice pb lb cb, .func (.func 13) #[] #[]] w fun e w' => e = .returned (.int .i64 (cmpR la lb fun i => cmpV (KA i) (NA i) (SA i) (KB i) (NB i) (SB i))) ∧ Below w.heap.size w w' := by
  go_enter Tryz.func45, Tryz.ntmps45
  go_wp2_with fail
  go_loopw [13] (fun i wr => ∃ k : Nat, k ≤ la ∧ k ≤ lb ∧ i = .int .i64 k ∧ Below w.heap.size w wr ∧ cmpRow la lb (fun i => cmpV (KA i) (NA i) (SA i) (KB i) (NB i) (SB i)) (min la lb - k) k = cmpR la lb (fun i => cmpV (KA i) (NA i) (SA i) (KB i) (NB i) (SB i))) (fun i _ => la - (intOf i).toNat)
  case atStart => exact ⟨0, by omega, by omega, rfl, Below.refl _ _, rfl⟩
  case round =>
    obtain ⟨k, hka, hkb, rfl, hB, hC⟩ := hrel
    have HC := Lib.hid hC
    clear hC
    by_cases ka : k < la
    · by_cases kb : k < lb
      · obtain rfl := RA.ptr (by omega)
        obtain rfl := RB.ptr (by omega)
        have a0 := cell_below hB (RA.kind k ka)
        have a1 := cell_below hB (RA.num k ka)
        have a2 := cell_below hB (RA.text k ka)
        have b0 := cell_below hB (RB.kind k kb)
        have b1 := cell_below hB (RB.num k kb)
        have b2 := cell_below hB (RB.text k kb)
        have za : BA < wr.heap.size := World.block_lt_of_cell? _ _ a0
        have zb : BB < wr.heap.size := World.block_lt_of_cell? _ _ b0
        have R := Lib.hid (fun w => c_Compare (KA k) (NA k) (SA k) (KB k) (NB k) (SB k) (RA.range k ka) (RB.range k kb) (RA.size k ka) (RB.size k kb) w)
        have G := Lib.hid RA
        have G2 := Lib.hid RB
        clear RA RB
        obtain ⟨x, hx⟩ : ∃ x, cmpV (KA k) (NA k) (SA k) (KB k) (NB k) (SB k) = x := ⟨_, rfl⟩
        rw [hx] at R
        have HX := Lib.hid hx
        clear hx
        go_wp2_with fail
        refine (R.out _).mono ?_
        rintro e w1 ⟨rfl, hb1⟩
        by_cases x0 : x = 0
        · have x1 : (x != 0) = false := by simpa using x0
          go_wp2_with fail
          go_roundw
          case rel => exact ⟨k + 1, by omega, by omega, by go_num, (by repeat (first | exact hB | (refine bel_trans ?_ (by assumption)) | apply bel_alloc)), cmp_next _ _ _ _ HC.out (by omega) (HX.out.trans x0)⟩
          case measure => simp [intOf]; omega
        · have x1 : (x != 0) = true := by simpa using x0
          go_wp2_with fail
          go_ret
          exact ⟨ret_int (cmp_stop _ _ _ _ HC.out (by omega) (by rw [HX.out]; exact x0) HX.out), (by repeat (first | exact hB | (refine bel_trans ?_ (by assumption)) | apply bel_alloc))⟩
      · obtain rfl : k = lb := by omega
        obtain rfl := RA.ptr (by omega)
        have a0 := cell_below hB (RA.kind k ka)
        have a1 := cell_below hB (RA.num k ka)
        have a2 := cell_below hB (RA.text k ka)
        have za : BA < wr.heap.size := World.block_lt_of_cell? _ _ a0
        have R := Lib.hid (cmp_done _ _ _ _ HC.out (by omega))
        clear RA RB
        go_wp2_with fail
        go_ret
        exact ⟨ret_int (by rw [← R.out]; unfold cmpI; omega), (by repeat (first | exact hB | (refine bel_trans ?_ (by assumption)) | apply bel_alloc))⟩
    · obtain rfl : k = la := by omega
      have R := Lib.hid (cmp_done _ _ _ _ HC.out (by omega))
      clear RA RB
      go_wp2_with fail
      all_goals (go_ret; exact ⟨ret_int (by rw [← R.out]; unfold cmpI; omega), hB⟩)
theorem c_CompareRows (pa pb : Option Addr) (la ca lb cb BA OA BB OB : Nat) (KA NA KB NB : Nat → Int) (SA SB : Nat → ByteArray) (ha : la ≤ 140737488351232) (hb : lb ≤ 140737488351232) (w : World)
    (RA : RowAt w pa la BA OA KA NA SA) (RB : RowAt w pb lb BB OB KB NB SB) :
    Calls Tryz.prog 18 #[.slice pa la ca, .slice pb lb cb] w fun e w' => e = .returned (.int .i64 (cmpR la lb fun i => cmpV (KA i) (NA i) (SA i) (KB i) (NB i) (SB i))) ∧ Below w.heap.size w w' := by
  have H := Lib.hid (l_CompareFunc pa pb la ca lb cb BA OA BB OB KA NA KB NB SA SB ha hb w RA RB)
  clear RA RB
  go_enter Tryz.func18, Tryz.ntmps18
  go_wp2_with fail
  refine H.out.mono ?_
  rintro e w1 ⟨rfl, hb1⟩
  go_wp2_with fail
  go_ret
  exact ⟨rfl, hb1⟩
end Go.Proofs.YtjiilfbomcibjaaGreatDoor.V
