/- The document's first example: the law's awake. -/
import Derived.Test.YtdcanjfdgfpdfaaGreatDoorSm
namespace Go.Proofs.YtdcanjfdgfpdfaaGreatDoor.V
open Go.ChangeShapes Go.WideShapes Go.ChangeAt Go.RowKit Go.Shelf
set_option maxRecDepth 100000 in
theorem ex_toks : Lx.toks [83, 101, 108, 101, 99, 116, 32, 97, 46, 98, 49, 60, 62, 39, 120, 39, 39, 121, 39, 45, 45, 122] = ⟨[⟨1, [83, 69, 76, 69, 67, 84], 0⟩, ⟨2, [97], 7⟩, ⟨5, [46], 8⟩, ⟨2, [98, 49], 9⟩, ⟨5, [60, 62], 11⟩, ⟨4, [120, 39, 121], 13⟩], 0, 0⟩ := by kernel_rfl
theorem ex_calls (w : World) (E : Env w) : Calls Tryz.prog 6 #[.string ⟨#[83, 101, 108, 101, 99, 116, 32, 97, 46, 98, 49, 60, 62, 39, 120, 39, 39, 121, 39, 45, 45, 122]⟩] w fun e w' => ∃ g o ca, e = .returned (.tuple #[.slice (some ⟨g, o, none⟩) 6 ca, .int .i64 0, .int .i64 0]) ∧
    w'.cell? ⟨g, o, none⟩ = some (.int .u8 1) ∧ w'.cell? ⟨g, o + 1, none⟩ = some (.string ⟨#[83, 69, 76, 69, 67, 84]⟩) ∧ w'.cell? ⟨g, o + 9 + 1, none⟩ = some (.string ⟨#[98, 49]⟩) ∧
    w'.cell? ⟨g, o + 12 + 2, none⟩ = some (.int .i64 11) ∧ w'.cell? ⟨g, o + 15, none⟩ = some (.int .u8 4) ∧ w'.cell? ⟨g, o + 15 + 1, none⟩ = some (.string ⟨#[120, 39, 121]⟩) ∧ 6 ≤ ca ∧ Below w.heap.size w w' := by
  refine (c_Tokens ⟨#[83, 101, 108, 101, 99, 116, 32, 97, 46, 98, 49, 60, 62, 39, 120, 39, 39, 121, 39, 45, 45, 122]⟩ w E).mono fun e w' h => ?_
  rw [show (⟨#[83, 101, 108, 101, 99, 116, 32, 97, 46, 98, 49, 60, 62, 39, 120, 39, 39, 121, 39, 45, 45, 122]⟩ : ByteArray).data.toList = [83, 101, 108, 101, 99, 116, 32, 97, 46, 98, 49, 60, 62, 39, 120, 39, 39, 121, 39, 45, 45, 122] from rfl, ex_toks] at h
  obtain ⟨a, ca, he, hr, hc, _, hb⟩ := h.reads
  obtain ⟨g, o, rfl, hcells⟩ := hr.at_ (by decide)
  exact ⟨g, o, ca, he, hcells 0 _ rfl, hcells 1 _ rfl, hcells 10 _ rfl, hcells 14 _ rfl, hcells 15 _ rfl, hcells 16 _ rfl, hc, hb⟩
set_option maxRecDepth 100000 in
set_option maxHeartbeats 1000000 in
theorem awake (w : World) (E : Env w) : Calls Tryz.prog 8 #[] w fun e w' => e = .returned (.bool true) ∧ Below w.heap.size w w' := by
  have HC := Lib.hid (ex_calls w E)
  clear E
  go_enter Tryz.func8, Tryz.ntmps8
  go_wp2_with fail
  refine HC.out.mono ?_
  rintro e w1 ⟨g, o, ca, rfl, c0, c1, c2, c3, c4, c5, hca, hb⟩
  clear HC
  go_wp2
  go_ret
  exact ⟨rfl, hb⟩
end Go.Proofs.YtdcanjfdgfpdfaaGreatDoor.V
