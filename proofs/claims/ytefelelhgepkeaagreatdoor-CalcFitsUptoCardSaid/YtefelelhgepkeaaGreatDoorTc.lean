/- Whether null is among some outs. -/
import Derived.Test.YtefelelhgepkeaaGreatDoorKx
namespace Go.Proofs.YtefelelhgepkeaaGreatDoor.T
open Go.ChangeShapes Go.WideShapes Go.ChangeAt Go.RowKit Go.Proofs.YtefelelhgepkeaaGreatDoor.V Go.Proofs.YtefelelhgepkeaaGreatDoor.K
def isNul (o : Ot) : Bool := decide (o.k = 0 ∧ o.n = 0 ∧ o.s.toList = [] ∧ o.e = 0)
set_option maxRecDepth 100000 in
set_option maxHeartbeats 4000000 in
theorem l_IndexN (a : Option Addr) (n c : Nat) (l : List Ot) (hn : n ≤ 9223372036854775000) (w : World) (h : Outs w a n l) :
    Ret 109 #[.slice a n c, ov 0 0 ⟨#[]⟩ 0] w (.int .i64 (idx isNul l 0)) := by
  have HL := Lib.hid h
  clear h
  go_enter Tryz.func109, Tryz.ntmps109
  go_wp2
  go_loopw [5, 8] (fun s5 s8 wr => ∃ (k : Nat), k ≤ n ∧ s8 = .int .i64 k ∧ Hid (idx isNul (l.drop k) k = idx isNul l 0) ∧ Hid (Box wr w.heap.size nul) ∧ Hid (Below w.heap.size w wr)) (fun _ s8 _ => n - (intOf s8).toNat)
  case atStart => exact ⟨0, by omega, rfl, rfl, Box.new w nul, bel_alloc (Below.refl _ _) _⟩
  case round =>
    obtain ⟨k, hk, rfl, HI, HX, HB⟩ := hrel
    by_cases hlt : k < n
    · obtain ⟨g, q, o, rfl, hlk, hg, c0, c1, c2, c3⟩ := (HL.out.below HB.out).at_ k hlt
      have HI2 := Lib.hid ((idx_drop hlk k).symm.trans HI.out)
      clear HI hlk
      obtain ⟨hx, d0, d1, d2, d3, -, -, -, -⟩ := HX.out
      obtain ⟨ok, on, os, oe⟩ := o
      simp only at c0 c1 c2 c3
      by_cases hq : ok = 0 ∧ on = 0 ∧ os.toList = [] ∧ oe = 0
      · have HI3 : Hid ((k : Int) = idx isNul l 0) := by
          have h := HI2.out
          rw [show isNul ⟨ok, on, os, oe⟩ = true by unfold isNul; exact decide_eq_true hq, if_pos rfl] at h
          exact h
        obtain ⟨rfl, rfl, hs, rfl⟩ := hq
        clear HI2
        go_wp2_with fail
        refine region_far (by kernel_rfl) (by kernel_rfl) ?_
        repeat (go_big_quiet_step (fail))
        refine wpQuiet_nil ?_
        intro wq hbq
        go_wp2
        go_ret
        exact ⟨ret_int HI3.out, bel_trans HB.out hbq⟩
      · have HI3 : Hid (idx isNul (l.drop (k + 1)) (k + 1) = idx isNul l 0) := by
          have h := HI2.out
          rw [show isNul ⟨ok, on, os, oe⟩ = false by unfold isNul; exact decide_eq_false hq, if_neg (by simp)] at h
          exact h
        clear HI2
        by_cases h1 : ok = 0
        · by_cases h2 : on = 0
          · by_cases h3 : os.toList = []
            · have h4 : ¬ oe = 0 := fun h4 => hq ⟨h1, h2, h3, h4⟩
              have h4' : ¬ 0 = oe := fun h => h4 h.symm
              clear hq
              go_wp2_with fail
              refine region_far (by kernel_rfl) (by kernel_rfl) ?_
              repeat (go_big_quiet_step (fail))
              refine wpQuiet_nil ?_
              intro wq hbq
              go_wp2
              refine ⟨⟨k + 1, by omega, by go_num, HI3.out, HX.out.below hbq, bel_trans HB.out hbq⟩, by simp [intOf]; omega⟩
            · have h3' : ¬ [] = os.toList := fun h => h3 h.symm
              clear hq
              go_wp2_with fail
              refine region_far (by kernel_rfl) (by kernel_rfl) ?_
              repeat (go_big_quiet_step (fail))
              refine wpQuiet_nil ?_
              intro wq hbq
              go_wp2
              refine ⟨⟨k + 1, by omega, by go_num, HI3.out, HX.out.below hbq, bel_trans HB.out hbq⟩, by simp [intOf]; omega⟩
          · have h2' : ¬ 0 = on := fun h => h2 h.symm
            clear hq
            go_wp2_with fail
            refine region_far (by kernel_rfl) (by kernel_rfl) ?_
            repeat (go_big_quiet_step (fail))
            refine wpQuiet_nil ?_
            intro wq hbq
            go_wp2
            refine ⟨⟨k + 1, by omega, by go_num, HI3.out, HX.out.below hbq, bel_trans HB.out hbq⟩, by simp [intOf]; omega⟩
        · have h1' : ¬ 0 = ok := fun h => h1 h.symm
          clear hq
          go_wp2_with fail
          refine region_far (by kernel_rfl) (by kernel_rfl) ?_
          repeat (go_big_quiet_step (fail))
          refine wpQuiet_nil ?_
          intro wq hbq
          go_wp2
          refine ⟨⟨k + 1, by omega, by go_num, HI3.out, HX.out.below hbq, bel_trans HB.out hbq⟩, by simp [intOf]; omega⟩
    · have he : idx isNul l 0 = -1 := by rw [← HI.out, idx_end (by have := HL.out.len; omega)]
      have HE := Lib.hid he
      clear he HI
      go_wp2
      go_ret
      exact ⟨ret_int HE.out.symm, HB.out⟩
theorem l_ContainsN (a : Option Addr) (n c : Nat) (l : List Ot) (hn : n ≤ 9223372036854775000) (w : World) (h : Outs w a n l) :
    Ret 90 #[.slice a n c, ov 0 0 ⟨#[]⟩ 0] w (.bool (l.any isNul)) := by
  have HI := Lib.hid (idx_any (p := isNul) l 0)
  go_enter Tryz.func90, Tryz.ntmps90
  go_wp2_with fail
  refine (l_IndexN a n c l hn _ (h.below (bel_alloc (Below.refl _ _) _))).mono ?_
  rintro e w1 ⟨rfl, hb1⟩
  have B1 : Below w.heap.size w w1 := bel_trans (bel_alloc (Below.refl _ _) _) hb1
  go_wp2
  go_ret
  exact ⟨ret_bool HI.out, B1⟩
end Go.Proofs.YtefelelhgepkeaaGreatDoor.T
