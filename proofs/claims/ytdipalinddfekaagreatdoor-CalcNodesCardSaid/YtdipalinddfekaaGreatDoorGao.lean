/- The reference's table decides what the document's patterns say. -/
import Derived.Test.YtdipalinddfekaaGreatDoorGai
import Derived.Test.YtdipalinddfekaaGreatDoorGan
import Derived.Deep.OwnRows
import Derived.LoopTactic
import Derived.Deep.LoopGhost
import Derived.BigGuard
import Derived.Test.YtdipalinddfekaaGreatDoorGaj
namespace Go.Proofs.YtdipalinddfekaaGreatDoor.V
open Go.ChangeShapes Go.WideShapes Go.ChangeAt Go.RowKit
theorem infoBool : (Tryz.prog.info? 4).map (fun i => (i.zero, i.size, i.bytes)) = some (some (.bool false), 1, 1) := by kernel_rfl
/-- Whether the text's first i bytes match the pattern's first j. -/
def D (s p : ByteArray) (i j : Nat) : Bool := M.mt (s.data.toList.take i) (p.data.toList.take j)
theorem take_s (s : ByteArray) (k : Nat) (h : k < s.size) : s.data.toList.take (k + 1) = s.data.toList.take k ++ [s[k]] := by
  rw [List.take_succ_eq_append_getElem (by simpa using h)]; rfl
theorem D_start (s p : ByteArray) : D s p 0 0 = true := by unfold D; rw [List.take_zero, List.take_zero, M.mt_nil]; rfl
theorem D_top (s p : ByteArray) (j : Nat) (h : j < p.size) : D s p 0 (j + 1) = (D s p 0 j && decide ((p[j].toNat : Int) = 37)) := by
  unfold D
  rw [List.take_zero, take_s p j h, M.snoc_nil]
  congr 1
  rw [decide_eq_decide, ← UInt8.toNat_inj]
  show p[j].toNat = 37 ↔ _
  omega
theorem D_left (s p : ByteArray) (k : Nat) (h : k < s.size) : D s p (k + 1) 0 = false := by
  unfold D
  rw [List.take_zero, take_s s k h, M.snoc_base]
theorem D_star (s p : ByteArray) (k j : Nat) (h : k < s.size) (hj : j < p.size) (hd : (p[j].toNat : Int) = 37) : D s p (k + 1) (j + 1) = (D s p (k + 1) j || D s p k (j + 1)) := by
  have e : p[j] = 37 := UInt8.toNat_inj.1 (by show p[j].toNat = 37; omega)
  unfold D
  rw [take_s p j hj, take_s s k h, e, M.snoc_star]
theorem D_any (s p : ByteArray) (k j : Nat) (h : k < s.size) (hj : j < p.size) (hd : (p[j].toNat : Int) = 95) : D s p (k + 1) (j + 1) = D s p k j := by
  have e : p[j] = 95 := UInt8.toNat_inj.1 (by show p[j].toNat = 95; omega)
  unfold D
  rw [take_s p j hj, take_s s k h, e, M.snoc_char _ _ _ _ (by decide)]
  simp
theorem D_char (s p : ByteArray) (k j : Nat) (h : k < s.size) (hj : j < p.size) (h1 : ¬ (p[j].toNat : Int) = 37) (h2 : ¬ (p[j].toNat : Int) = 95) : D s p (k + 1) (j + 1) = (D s p k j && decide ((p[j].toNat : Int) = s[k].toNat)) := by
  have n1 : p[j] ≠ 37 := fun e => h1 (by rw [e]; rfl)
  have n2 : p[j] ≠ 95 := fun e => h2 (by rw [e]; rfl)
  unfold D
  rw [take_s p j hj, take_s s k h, M.snoc_char _ _ _ _ n1]
  congr 1
  rw [decide_eq_decide]
  refine ⟨fun h => ?_, fun h => .inr (UInt8.toNat_inj.1 (by omega))⟩
  rcases h with h | h
  · exact absurd h n2
  · rw [h]
theorem D_end (s p : ByteArray) : D s p s.size p.size = matchB s p := by
  unfold D matchB
  rw [List.take_of_length_le (by simp), List.take_of_length_le (by simp)]
/-- A row, its first m places told. -/
def fill (m : Nat) (F : Nat → Bool) : Nat → Value := fun i => .bool (if i < m then F i else false)
theorem fill_step {w : World} {b t N m : Nat} {F : Nat → Bool} (h : w.rowIs b t N (fill m F)) {v : Bool} (hv : v = F m) : (w.setCell ⟨b, m, none⟩ (.bool v)).rowIs b t N (fill (m + 1) F) := by
  subst hv
  refine (h.set m _).congr fun i _ => ?_
  unfold fill
  by_cases e : i = m
  · subst e; simp
  · rw [if_neg e]
    by_cases hl : i < m
    · rw [if_pos hl, if_pos (by omega)]
    · rw [if_neg hl, if_neg (by omega)]
theorem fill_all {w : World} {b t N : Nat} {F : Nat → Bool} (h : w.rowIs b t N (fill N F)) : w.rowIs b t N (fun i => .bool (F i)) :=
  h.congr fun i hi => by unfold fill; rw [if_pos hi]
theorem fill_made {w : World} {t N : Nat} {F : Nat → Bool} (h : F 0 = false) : (w.alloc (.cells (madeCells #[.bool false] N) t)).rowIs w.heap.size t N (fill 1 F) :=
  (World.rowIs_made w (.bool false) N t).congr fun i _ => by
    unfold fill
    by_cases e : i < 1
    · rw [if_pos e, show i = 0 by omega, h]
    · rw [if_neg e]
theorem fill_first {w : World} {t N : Nat} {F : Nat → Bool} (h : F 0 = true) : ((w.alloc (.cells (madeCells #[.bool false] N) t)).setCell ⟨w.heap.size, 0, none⟩ (.bool true)).rowIs w.heap.size t N (fill 1 F) :=
  ((World.rowIs_made w (.bool false) N t).set 0 _).congr fun i _ => by
    unfold fill
    by_cases e : i = 0
    · subst e; rw [if_pos rfl, if_pos (by omega), h]
    · rw [if_neg e, if_neg (by omega)]
theorem fill_first' {w : World} {t N : Nat} {F : Nat → Bool} (h : F 0 = true) : (w.alloc (.cells ((madeCells #[.bool false] N).setIfInBounds 0 (.bool true)) t)).rowIs w.heap.size t N (fill 1 F) := by
  have e : (w.alloc (.cells (madeCells #[.bool false] N) t)).setCell ⟨w.heap.size, 0, none⟩ (.bool true) = w.alloc (.cells ((madeCells #[.bool false] N).setIfInBounds 0 (.bool true)) t) := by simp [go_sem]
  rw [← e]
  exact fill_first h
theorem since_below {w w' : World} (h : w.Since w.heap.size w') : Below w.heap.size w w' := ⟨h.os, h.tape, h.output, h.size, h.block⟩
set_option maxRecDepth 20000 in
set_option maxHeartbeats 1600000 in
theorem r_Matches (s p : ByteArray) (hs : s.size ≤ 140737488351232) (hp : p.size ≤ 140737488351232) (w : World) : Calls Tryz.prog 37 #[.string s, .string p] w fun e w' => e = .returned (.bool (matchB s p)) ∧ Below w.heap.size w w' := by
  have hmk := run_make_row' (P := Tryz.prog) 92 4 (.bool false) 1 Tryz.underlying92 infoBool rfl .i64 .i64 (p.size + 1) (by omega) (by omega)
  have ec : ((p.size + 1 : Nat) : Int) = (p.size : Int) + 1 := by omega
  rw [ec] at hmk
  clear ec
  have hst1 : (w.alloc (.cells (madeCells #[.bool false] (p.size + 1)) 4)).cell? ⟨w.heap.size, 0, none⟩ = some (.bool false) := (World.rowIs_made w (.bool false) (p.size + 1) 4).cell (by omega)
  have hst2 : (w.alloc (.cells (madeCells #[.bool false] (p.size + 1)) 4)).frozen? ⟨w.heap.size, 0, none⟩ = false := (World.rowIs_made w (.bool false) (p.size + 1) 4).frozen 0
  go_enter Tryz.func37, Tryz.ntmps37
  go_wp2_with fail
  clear hst1 hst2
  go_loopw [6] (fun i wr => ∃ j : Nat, j ≤ p.size ∧ i = .int .i64 j ∧ w.Since w.heap.size wr ∧ wr.rowIs w.heap.size 4 (p.size + 1) (fill (j + 1) (D s p 0))) (fun i _ => p.size - (intOf i).toNat)
  case atStart =>
    exact ⟨0, by omega, rfl, (World.Since.refl _ _).alloc (Nat.le_refl _) _, fill_first' (D_start s p)⟩
  case round =>
    obtain ⟨j, hj, rfl, hS, hR⟩ := hrel
    by_cases hj' : j < p.size
    · have c1 : wr.cell? ⟨w.heap.size, j, none⟩ = some (.bool (D s p 0 j)) := by rw [hR.cell (by omega)]; unfold fill; rw [if_pos (by omega)]
      have c2 : wr.cell? ⟨w.heap.size, j + 1, none⟩ = some (.bool false) := by rw [hR.cell (by omega)]; unfold fill; rw [if_neg (by omega)]
      have c3 : wr.frozen? ⟨w.heap.size, j + 1, none⟩ = false := hR.frozen _
      have hD := Lib.hid (D_top s p j hj')
      cases hd : D s p 0 j with
      | false =>
        rw [hd] at c1
        have hv := Lib.hid (hD.out.trans (show _ = false by rw [hd]; rfl))
        clear hD hd
        go_wp2
        go_roundw
        case rel => exact ⟨j + 1, by omega, by go_num, hS.setCell (Nat.le_refl _) _, fill_step hR hv.out.symm⟩
        case measure => simp [intOf]; omega
      | true =>
        rw [hd] at c1
        by_cases h37 : (p[j].toNat : Int) = 37
        · have hv := Lib.hid (hD.out.trans (show _ = true by rw [hd, decide_eq_true h37]; rfl))
          clear hD hd
          have hb : ((p[j].toNat : Int) == 37) = true := by simpa using h37
          clear h37
          go_wp2
          go_roundw
          case rel => exact ⟨j + 1, by omega, by go_num, hS.setCell (Nat.le_refl _) _, fill_step hR hv.out.symm⟩
          case measure => simp [intOf]; omega
        · have hv := Lib.hid (hD.out.trans (show _ = false by rw [hd, decide_eq_false h37]; rfl))
          clear hD hd
          have hb : ((p[j].toNat : Int) == 37) = false := by simpa using h37
          clear h37
          go_wp2
          go_roundw
          case rel => exact ⟨j + 1, by omega, by go_num, hS.setCell (Nat.le_refl _) _, fill_step hR hv.out.symm⟩
          case measure => simp [intOf]; omega
    · obtain rfl : j = p.size := by omega
      have hR' := fill_all hR
      clear hR
      go_wp2
      go_loopw [5, 7] (fun is i wr => ∃ k b : Nat, k ≤ s.size ∧ is = .slice (some ⟨b, 0, none⟩) (p.size + 1) (p.size + 1) ∧ i = .int .i64 k ∧ w.heap.size ≤ b ∧ w.Since w.heap.size wr ∧ wr.rowIs b 4 (p.size + 1) (fun j => .bool (D s p k j))) (fun _ i _ => s.size - (intOf i).toNat)
      case atStart => exact ⟨0, w.heap.size, by omega, rfl, rfl, Nat.le_refl _, hS, hR'⟩
      case round =>
        clear hS hR'
        obtain ⟨k, b, hk, rfl, rfl, hb, hS, hR⟩ := hrel
        by_cases hk' : k < s.size
        · have hmk := run_make_row' (P := Tryz.prog) 92 4 (.bool false) 1 Tryz.underlying92 infoBool rfl .i64 .i64 (p.size + 1) (by omega) (by omega)
          have ec : ((p.size + 1 : Nat) : Int) = (p.size : Int) + 1 := by omega
          rw [ec] at hmk
          clear ec
          have hbl := hR.lt
          have hle := hS.size
          obtain ⟨wo, hwo⟩ : ∃ x, x = wr := ⟨wr, rfl⟩
          subst hwo
          go_wp2
          clear hmk
          go_loopw [9] (fun i wi => ∃ j : Nat, j ≤ p.size ∧ i = .int .i64 j ∧ w.Since w.heap.size wi ∧ wi.rowIs b 4 (p.size + 1) (fun j => .bool (D s p k j)) ∧ wi.rowIs wo.heap.size 4 (p.size + 1) (fill (j + 1) (D s p (k + 1)))) (fun i _ => p.size - (intOf i).toNat)
          case atStart => exact ⟨0, by omega, rfl, hS.alloc hle _, hR.alloc _, fill_made (D_left s p k hk')⟩
          case round =>
            clear hS hR
            obtain ⟨j, hj, rfl, hS2, hB, hN⟩ := hrel
            by_cases hj' : j < p.size
            · have r2 : wr.cell? ⟨wo.heap.size, j, none⟩ = some (.bool (D s p (k + 1) j)) := by rw [hN.cell (by omega)]; unfold fill; rw [if_pos (by omega)]
              have r3 : wr.cell? ⟨wo.heap.size, j + 1, none⟩ = some (.bool false) := by rw [hN.cell (by omega)]; unfold fill; rw [if_neg (by omega)]
              have r4 : wr.frozen? ⟨wo.heap.size, j + 1, none⟩ = false := hN.frozen _
              have r0 : wr.cell? ⟨b, j, none⟩ = some (.bool (D s p k j)) := hB.cell (by omega)
              have r1 : wr.cell? ⟨b, j + 1, none⟩ = some (.bool (D s p k (j + 1))) := hB.cell (by omega)
              by_cases h37 : (p[j].toNat : Int) = 37
              · have hD := Lib.hid (D_star s p k j hk' hj' h37)
                have g1 : ((p[j].toNat : Int) == 37) = true := by simpa using h37
                clear h37 r0
                cases hd : D s p (k + 1) j with
                | false =>
                  rw [hd] at r2
                  have hv := Lib.hid (hD.out.trans (show _ = D s p k (j + 1) by rw [hd]; rfl))
                  clear hD hd
                  go_wp2
                  go_roundw
                  case rel => exact ⟨j + 1, by omega, by go_num, (hS2.setCell hle _), (hB.setOther (by show b ≠ wo.heap.size; omega) _), (fill_step hN hv.out.symm)⟩
                  case measure => simp [intOf]; omega
                | true =>
                  rw [hd] at r2
                  have hv := Lib.hid (hD.out.trans (show _ = true by rw [hd]; rfl))
                  clear hD hd
                  go_wp2
                  go_roundw
                  case rel => exact ⟨j + 1, by omega, by go_num, (hS2.setCell hle _), (hB.setOther (by show b ≠ wo.heap.size; omega) _), (fill_step hN hv.out.symm)⟩
                  case measure => simp [intOf]; omega
              · have g1 : ((p[j].toNat : Int) == 37) = false := by simpa using h37
                by_cases h95 : (p[j].toNat : Int) = 95
                · have hv := Lib.hid (D_any s p k j hk' hj' h95)
                  have g2 : ((p[j].toNat : Int) == 95) = true := by simpa using h95
                  clear h37 h95 r1 r2
                  go_wp2
                  go_roundw
                  case rel => exact ⟨j + 1, by omega, by go_num, (hS2.setCell hle _), (hB.setOther (by show b ≠ wo.heap.size; omega) _), (fill_step hN hv.out.symm)⟩
                  case measure => simp [intOf]; omega
                · have hD := Lib.hid (D_char s p k j hk' hj' h37 h95)
                  have g2 : ((p[j].toNat : Int) == 95) = false := by simpa using h95
                  clear h37 h95 r1 r2
                  cases hd : D s p k j with
                  | false =>
                    rw [hd] at r0
                    have hv := Lib.hid (hD.out.trans (show _ = false by rw [hd]; rfl))
                    clear hD hd
                    go_wp2
                    go_big_region
                    go_wp2
                    go_roundw
                    case rel => exact ⟨j + 1, by omega, by go_num, (hS2.setCell hle _).drew, (hB.setOther (by show b ≠ wo.heap.size; omega) _).drew, (fill_step hN hv.out.symm).drew⟩
                    case measure => simp [intOf]; omega
                  | true =>
                    rw [hd] at r0
                    by_cases hch : (p[j].toNat : Int) = s[k].toNat
                    · have hv := Lib.hid (hD.out.trans (show _ = true by rw [hd, decide_eq_true hch]; rfl))
                      have g3 : ((p[j].toNat : Int) == s[k].toNat) = true := by simpa using hch
                      clear hD hd hch
                      go_wp2
                      go_big_region
                      go_wp2
                      go_roundw
                      case rel => exact ⟨j + 1, by omega, by go_num, (hS2.setCell hle _).drew, (hB.setOther (by show b ≠ wo.heap.size; omega) _).drew, (fill_step hN hv.out.symm).drew⟩
                      case measure => simp [intOf]; omega
                    · have hv := Lib.hid (hD.out.trans (show _ = false by rw [hd, decide_eq_false hch]; rfl))
                      have g3 : ((p[j].toNat : Int) == s[k].toNat) = false := by simpa using hch
                      clear hD hd hch
                      go_wp2
                      go_big_region
                      go_wp2
                      go_roundw
                      case rel => exact ⟨j + 1, by omega, by go_num, (hS2.setCell hle _).drew, (hB.setOther (by show b ≠ wo.heap.size; omega) _).drew, (fill_step hN hv.out.symm).drew⟩
                      case measure => simp [intOf]; omega
            · obtain rfl : j = p.size := by omega
              have hN' := fill_all hN
              have HL := Lib.hid hle
              have HK := Lib.hid hk'
              clear hN hB hle hbl hb hj hk
              go_wp2_with fail
              go_roundw
              case rel => exact ⟨k + 1, wo.heap.size, HK.out, rfl, by go_num, HL.out, hS2, hN'⟩
              case measure => have hk' := HK.out; simp [intOf]; omega
        · obtain rfl : k = s.size := by omega
          have c1 : wr.cell? ⟨b, p.size, none⟩ = some (.bool (D s p s.size p.size)) := hR.cell (by omega)
          rw [D_end] at c1
          go_wp2
          go_ret
          exact ⟨rfl, since_below hS⟩
end Go.Proofs.YtdipalinddfekaaGreatDoor.V
namespace Go.Proofs.YtdipalinddfekaaGreatDoor.U
open Go.ChangeShapes Go.WideShapes Go.ChangeAt Go.RowKit Go.Proofs.YtdipalinddfekaaGreatDoor.V Go.Proofs.YtdipalinddfekaaGreatDoor.K Go.Proofs.YtdipalinddfekaaGreatDoor.T
set_option maxRecDepth 100000 in
set_option maxHeartbeats 4000000 in
theorem q_s10 (o p : Ot) (hs : o.s.size ≤ 100) (hp : p.s.size ≤ 100) (a : Option Addr) (c : Nat) (w : World) (h : Outs w a 2 [o, p]) : Ret 20 #[.int .u8 10, .slice a 2 c] w (enc (textO (o.s ++ p.s))) := by
  obtain ⟨g, q, x0, rfl, e0, hg, c0, c1, c2, c3⟩ := h.at_ 0 (by omega)
  obtain rfl : o = x0 := Option.some.inj e0
  obtain ⟨g', q', x1, e1, e2, hg', m0, m1, m2, m3⟩ := h.at_ 1 (by omega)
  cases e1
  obtain rfl : p = x1 := Option.some.inj e2
  simp only [Nat.zero_mul, Nat.one_mul, Nat.add_zero] at c0 c1 c2 c3 m0 m1 m2 m3
  have KP : Hid (∀ W', Below w.heap.size w W' → W'.cell? ⟨g, q, none⟩ = some (.int .u8 o.k) ∧ W'.cell? ⟨g, q + 1, none⟩ = some (.int .i64 o.n) ∧ W'.cell? ⟨g, q + 2, none⟩ = some (.string o.s) ∧ W'.cell? ⟨g, q + 3, none⟩ = some (.int .i64 o.e) ∧ W'.cell? ⟨g, q + 4, none⟩ = some (.int .u8 p.k) ∧ W'.cell? ⟨g, q + 4 + 1, none⟩ = some (.int .i64 p.n) ∧ W'.cell? ⟨g, q + 4 + 2, none⟩ = some (.string p.s) ∧ W'.cell? ⟨g, q + 4 + 3, none⟩ = some (.int .i64 p.e)) := fun W' hb => ⟨(hb.cell (p := ⟨g, _, none⟩) hg).trans c0, (hb.cell (p := ⟨g, _, none⟩) hg).trans c1, (hb.cell (p := ⟨g, _, none⟩) hg).trans c2, (hb.cell (p := ⟨g, _, none⟩) hg).trans c3,
    (hb.cell (p := ⟨g, _, none⟩) hg).trans m0, (hb.cell (p := ⟨g, _, none⟩) hg).trans m1, (hb.cell (p := ⟨g, _, none⟩) hg).trans m2, (hb.cell (p := ⟨g, _, none⟩) hg).trans m3⟩
  have HX : Hid (Box (w.alloc (.cells #[.int .u8 0, .int .i64 0, .string ⟨#[]⟩, .int .i64 0] 29)) w.heap.size nul) := Box.new w nul
  clear e0 e2 h
  have hns : ¬ 9223372036854775807 < o.s.size + p.s.size := by omega
  clear hs hp
  have hT := fun W => r_Text (o.s ++ p.s) W
  unfold textO
  by_cases hl : 100 < (o.s ++ p.s).size
  · rw [if_pos hl]
    rw [show textOf (o.s ++ p.s) = .tuple #[val 0 0 ⟨#[]⟩, .int .i64 5] from if_pos hl] at hT
    clear hl
    go_enter Tryz.func20, Tryz.ntmps20
    go_upto_region 10 with fail
    go_region_held3 (fun W' => W'.cell? ⟨g, q, none⟩ = some (.int .u8 o.k) ∧ W'.cell? ⟨g, q + 1, none⟩ = some (.int .i64 o.n) ∧ W'.cell? ⟨g, q + 2, none⟩ = some (.string o.s) ∧ W'.cell? ⟨g, q + 3, none⟩ = some (.int .i64 o.e) ∧ W'.cell? ⟨g, q + 4, none⟩ = some (.int .u8 p.k) ∧ W'.cell? ⟨g, q + 4 + 1, none⟩ = some (.int .i64 p.n) ∧ W'.cell? ⟨g, q + 4 + 2, none⟩ = some (.string p.s) ∧ W'.cell? ⟨g, q + 4 + 3, none⟩ = some (.int .i64 p.e)) (exact KP.out _ (by repeat (first | exact Below.refl _ _ | assumption | exact Go.Proofs.YtdipalinddfekaaGreatDoor.V.below_drewN _ _ | (refine bel_trans ?_ (Go.Proofs.YtdipalinddfekaaGreatDoor.V.below_drewN _ _)) | (refine bel_trans ?_ (by assumption)) | (with_reducible apply bel_alloc) | (with_reducible apply Below.drew) | apply bel_alloc | apply Below.drew | refine bel_set ?_ (by simp; try omega) _)))
      (first | (go_at_call 35; refine (hT _).mono ?_; rintro e w1 ⟨rfl, hb1⟩; obtain ⟨hx, d0, d1, d2, d3, f0, f1, f2, f3⟩ := HX.out.below (show Below (w.alloc (.cells #[.int .u8 0, .int .i64 0, .string ⟨#[]⟩, .int .i64 0] 29)).heap.size (w.alloc (.cells #[.int .u8 0, .int .i64 0, .string ⟨#[]⟩, .int .i64 0] 29)) w1 from by repeat (first | exact Below.refl _ _ | assumption | exact Go.Proofs.YtdipalinddfekaaGreatDoor.V.below_drewN _ _ | (refine bel_trans ?_ (Go.Proofs.YtdipalinddfekaaGreatDoor.V.below_drewN _ _)) | (refine bel_trans ?_ (by assumption)) | (with_reducible apply bel_alloc) | (with_reducible apply Below.drew) | apply bel_alloc | apply Below.drew | refine bel_set ?_ (by simp; try omega) _)); obtain ⟨hcw, hfw⟩ := bcell hb1; have hz1 := hb1.size; (try simp at hz1); (try have hk1 : w.heap.size + 1 < w1.heap.size := (by omega))))
    all_goals
      go_wp2
      have hw1 : Below w.heap.size w w1 := bel_trans (by repeat (first | with_reducible exact Below.refl _ _ | (with_reducible apply bel_alloc) | (with_reducible apply Below.drew) | apply bel_alloc | apply Below.drew)) hb1
      exact bodyPost_ret (v := ov 0 0 ⟨#[]⟩ 5) (by simp [results, Tryz.results20, go_sem, *]) rfl ⟨rfl, by repeat (first | with_reducible exact hw1 | (with_reducible refine bel_alloc ?_ _) | (with_reducible refine bel_set ?_ (by simp) _))⟩
  · rw [if_neg hl]
    rw [show textOf (o.s ++ p.s) = .tuple #[val 2 0 (o.s ++ p.s), .int .i64 0] from if_neg hl] at hT
    clear hl
    go_enter Tryz.func20, Tryz.ntmps20
    go_upto_region 10 with fail
    go_region_held3 (fun W' => W'.cell? ⟨g, q, none⟩ = some (.int .u8 o.k) ∧ W'.cell? ⟨g, q + 1, none⟩ = some (.int .i64 o.n) ∧ W'.cell? ⟨g, q + 2, none⟩ = some (.string o.s) ∧ W'.cell? ⟨g, q + 3, none⟩ = some (.int .i64 o.e) ∧ W'.cell? ⟨g, q + 4, none⟩ = some (.int .u8 p.k) ∧ W'.cell? ⟨g, q + 4 + 1, none⟩ = some (.int .i64 p.n) ∧ W'.cell? ⟨g, q + 4 + 2, none⟩ = some (.string p.s) ∧ W'.cell? ⟨g, q + 4 + 3, none⟩ = some (.int .i64 p.e)) (exact KP.out _ (by repeat (first | exact Below.refl _ _ | assumption | exact Go.Proofs.YtdipalinddfekaaGreatDoor.V.below_drewN _ _ | (refine bel_trans ?_ (Go.Proofs.YtdipalinddfekaaGreatDoor.V.below_drewN _ _)) | (refine bel_trans ?_ (by assumption)) | (with_reducible apply bel_alloc) | (with_reducible apply Below.drew) | apply bel_alloc | apply Below.drew | refine bel_set ?_ (by simp; try omega) _)))
      (first | (go_at_call 35; refine (hT _).mono ?_; rintro e w1 ⟨rfl, hb1⟩; obtain ⟨hx, d0, d1, d2, d3, f0, f1, f2, f3⟩ := HX.out.below (show Below (w.alloc (.cells #[.int .u8 0, .int .i64 0, .string ⟨#[]⟩, .int .i64 0] 29)).heap.size (w.alloc (.cells #[.int .u8 0, .int .i64 0, .string ⟨#[]⟩, .int .i64 0] 29)) w1 from by repeat (first | exact Below.refl _ _ | assumption | exact Go.Proofs.YtdipalinddfekaaGreatDoor.V.below_drewN _ _ | (refine bel_trans ?_ (Go.Proofs.YtdipalinddfekaaGreatDoor.V.below_drewN _ _)) | (refine bel_trans ?_ (by assumption)) | (with_reducible apply bel_alloc) | (with_reducible apply Below.drew) | apply bel_alloc | apply Below.drew | refine bel_set ?_ (by simp; try omega) _)); obtain ⟨hcw, hfw⟩ := bcell hb1; have hz1 := hb1.size; (try simp at hz1); (try have hk1 : w.heap.size + 1 < w1.heap.size := (by omega))))
    all_goals
      go_wp2
      have hw1 : Below w.heap.size w w1 := bel_trans (by repeat (first | with_reducible exact Below.refl _ _ | (with_reducible apply bel_alloc) | (with_reducible apply Below.drew) | apply bel_alloc | apply Below.drew)) hb1
      exact bodyPost_ret (v := ov 2 0 (o.s ++ p.s) 0) (by simp [results, Tryz.results20, go_sem, *]) rfl ⟨rfl, by repeat (first | with_reducible exact hw1 | (with_reducible refine bel_alloc ?_ _) | (with_reducible refine bel_set ?_ (by simp) _))⟩
end Go.Proofs.YtdipalinddfekaaGreatDoor.U
