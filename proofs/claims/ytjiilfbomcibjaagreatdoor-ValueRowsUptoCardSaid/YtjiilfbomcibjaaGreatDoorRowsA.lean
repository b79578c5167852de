/- Rows compared: the reference's loop (under way). -/
import Derived.Test.YtjiilfbomcibjaaGreatDoorOrders
import Derived.LoopTactic
import Derived.Deep.LoopGhost
namespace Go.Proofs.YtjiilfbomcibjaaGreatDoor.V
open Go.ChangeShapes Go.WideShapes Go.ChangeAt Go.RowKit Go.Proofs.YtjiilfbomcibjaaGreatDoor.L
/-- A row that lies in the world: its l values, three cells each. -/
structure RowAt (w : World) (p : Option Addr) (l : Nat) (B O : Nat) (K N : Nat → Int) (S : Nat → ByteArray) : Prop where
  ptr : 0 < l → p = some ⟨B, O, none⟩
  kind : ∀ i, i < l → w.cell? ⟨B, O + i * 3, none⟩ = some (.int .u8 (K i))
  num : ∀ i, i < l → w.cell? ⟨B, O + i * 3 + 1, none⟩ = some (.int .i64 (N i))
  text : ∀ i, i < l → w.cell? ⟨B, O + i * 3 + 2, none⟩ = some (.string (S i))
  range : ∀ i, i < l → 0 ≤ K i ∧ K i ≤ 255
  size : ∀ i, i < l → (S i).size ≤ maxLen
theorem RowAt.below {w w' : World} {p : Option Addr} {l B O : Nat} {K N : Nat → Int} {S : Nat → ByteArray} (h : RowAt w p l B O K N S) (hb : Below w.heap.size w w') : RowAt w' p l B O K N S :=
  ⟨h.ptr, fun i hi => cell_below hb (h.kind i hi), fun i hi => cell_below hb (h.num i hi), fun i hi => cell_below hb (h.text i hi), h.range, h.size⟩
/-- Two rows compared from place i on, d places ahead of the shorter one's end. -/
def cmpRow (la lb : Nat) (C : Nat → Int) : Nat → Nat → Int
  | 0, _ => cmpI la lb
  | d + 1, i => if C i ≠ 0 then C i else cmpRow la lb C d (i + 1)
/-- Two rows compared. -/
def cmpR (la lb : Nat) (C : Nat → Int) : Int := cmpRow la lb C (min la lb) 0
theorem cmp_next (la lb k : Nat) (C : Nat → Int) (h : cmpRow la lb C (min la lb - k) k = cmpR la lb C) (hk : k < min la lb) (h0 : C k = 0) : cmpRow la lb C (min la lb - (k + 1)) (k + 1) = cmpR la lb C := by
  rw [← h, show min la lb - k = (min la lb - (k + 1)) + 1 by omega, cmpRow, if_neg (by simpa using h0)]
theorem cmp_stop (la lb k : Nat) (C : Nat → Int) (h : cmpRow la lb C (min la lb - k) k = cmpR la lb C) (hk : k < min la lb) (h0 : C k ≠ 0) {x : Int} (hx : C k = x) : x = cmpR la lb C := by
  rw [← h, show min la lb - k = (min la lb - (k + 1)) + 1 by omega, cmpRow, if_pos h0, hx]
theorem cmp_done (la lb k : Nat) (C : Nat → Int) (h : cmpRow la lb C (min la lb - k) k = cmpR la lb C) (hk : k = min la lb) : cmpI la lb = cmpR la lb C := by
  rw [← h, show min la lb - k = 0 by omega, cmpRow]
set_option maxRecDepth 20000 in
set_option maxHeartbeats 800000 in
theorem r_CompareRows (pa pb : Option Addr) (la ca lb cb BA OA BB OB : Nat) (KA NA KB NB : Nat → Int) (SA SB : Nat → ByteArray) (ha : la ≤ 140737488351232) (hb : lb ≤ 140737488351232) (w : World)
    (RA : RowAt w pa la BA OA KA NA SA) (RB : RowAt w pb lb BB OB KB NB SB) :
    Calls Tryz.prog 17 #[.slice pa la ca, .slice pb lb cb] w fun e w' => e = .returned (.int .i64 (cmpR la lb fun i => cmpV (KA i) (NA i) (SA i) (KB i) (NB i) (SB i))) ∧ Below w.heap.size w w' := by
  go_enter Tryz.func17, Tryz.ntmps17
  go_wp2_with fail
  go_outline
  go_loopw [5] (fun i wr => ∃ k : Nat, k ≤ la ∧ k ≤ lb ∧ i = .int .i64 k ∧ Below w.heap.size w wr ∧ cmpRow la lb (fun i => cmpV (KA i) (NA i) (SA i) (KB i) (NB i) (SB i)) (min la lb - k) k = cmpR la lb (fun i => cmpV (KA i) (NA i) (SA i) (KB i) (NB i) (SB i))) (fun i _ => la - (intOf i).toNat)
  case atStart => exact ⟨0, by omega, by omega, rfl, Below.refl _ _, rfl⟩
  case round =>
    obtain ⟨k, hka, hkb, rfl, hB, hC⟩ := hrel
    have HC := Lib.hid hC
    clear hC
    by_cases ka : k < la
    · by_cases kb : k < lb
      · obtain rfl := RA.ptr (by omega)
        obtain rfl := RB.ptr (by omega)
        have a0 := cell_below hB (RA.kind k ka)
        have a1 := cell_below hB (RA.num k ka)
        have a2 := cell_below hB (RA.text k ka)
        have b0 := cell_below hB (RB.kind k kb)
        have b1 := cell_below hB (RB.num k kb)
        have b2 := cell_below hB (RB.text k kb)
        have za : BA < wr.heap.size := World.block_lt_of_cell? _ _ a0
        have zb : BB < wr.heap.size := World.block_lt_of_cell? _ _ b0
        have R := Lib.hid (fun w => r_Compare (KA k) (NA k) (SA k) (KB k) (NB k) (SB k) (RA.range k ka) (RB.range k kb) (RA.size k ka) (RB.size k kb) w)
        have G := Lib.hid RA
        have G2 := Lib.hid RB
        clear RA RB
        obtain ⟨x, hx⟩ : ∃ x, cmpV (KA k) (NA k) (SA k) (KB k) (NB k) (SB k) = x := ⟨_, rfl⟩
        rw [hx] at R
        have HX := Lib.hid hx
        clear hx
        go_wp2_with fail
        refine region_far (by kernel_rfl) (by kernel_rfl) ?_
        repeat (go_big_quiet_step ((first | (go_at_call 12; with_reducible exact call_far (R.out _)))))
        refine wpQuiet_nil ?_
        intro wq hbq
        by_cases x0 : x = 0
        · have x1 : (x != 0) = false := by simpa using x0
          go_wp2
          go_roundw
          case rel => exact ⟨k + 1, by omega, by omega, by go_num, bel_trans hB hbq, cmp_next _ _ _ _ HC.out (by omega) (HX.out.trans x0)⟩
          case measure => simp [intOf]; omega
        · have x1 : (x != 0) = true := by simpa using x0
          go_wp2
          go_ret
          exact ⟨ret_int (cmp_stop _ _ _ _ HC.out (by omega) (by rw [HX.out]; exact x0) HX.out), bel_trans hB hbq⟩
      · obtain rfl : k = lb := by omega
        have R := Lib.hid (cmp_done _ _ _ _ HC.out (by omega))
        clear RA RB
        go_wp2_with (first | (go_at_call 36; refine (r_ints _ _ _).mono ?_; rintro e w' ⟨rfl, rfl⟩))
        go_ret
        exact ⟨ret_int R.out, hB⟩
    · obtain rfl : k = la := by omega
      have R := Lib.hid (cmp_done _ _ _ _ HC.out (by omega))
      clear RA RB
      go_wp2_with (first | (go_at_call 36; refine (r_ints _ _ _).mono ?_; rintro e w' ⟨rfl, rfl⟩))
      go_ret
      exact ⟨ret_int R.out, hB⟩
end Go.Proofs.YtjiilfbomcibjaaGreatDoor.V
