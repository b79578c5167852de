/- The reference's Kind: the kids of a CASE parted one by one. -/
import Derived.Test.YtdipalinddfekaaGreatDoorGaf
import Derived.Test.YtdipalinddfekaaGreatDoorRows
import Derived.WalkKit
import Derived.ProofKit
import Derived.OpenShut
import Derived.Carry
import Derived.HandedShaped
import Derived.Lib.SmallJoins
import Derived.Test.YtdipalinddfekaaGreatDoorGae
import Derived.Deep.Slices
import Derived.Laws.OwnMore
import Derived.SizedLaws
import Derived.ChangeSame
namespace Go.Proofs.YtdipalinddfekaaGreatDoor.K
open Go.ChangeShapes Go.WideShapes Go.ChangeAt Go.RowKit Go.Proofs.YtdipalinddfekaaGreatDoor.V
theorem app_list {P : Program} {ops : Array Oper} {rest : List Oper} {o : Oper} {a : Act} {w w' : World} {Q : Exit → Act → World → Prop} {s x : Operand} {t : TypeId} {v vx v' : Value} (hgd : o.guard = none)
    (ho : o.op = .call { callee := .builtin .append, args := #[s, x], argTypes := #[t, t] }) (hs : a.eval s = v) (hx : a.eval x = vx) (hr : (Builtin.append_ #[t, t] o.type #[v, vx]).run P w = .ok v' w')
    (h : wpList P ops Q rest (a.put o.dst v') w') : wpList P ops Q (o :: rest) a w := by
  refine wpList_plain hgd fun K hK => ?_
  unfold Oper.wp execOp
  simp only [ho, resolve, invoke, builtin, Sem.run_bind, Sem.run_pure, Result.andThen_ok, List.map_toArray, List.map_cons, List.map_nil, hs, hx, hr]
  exact hK _ _ h
/-- What an append of one kind to a row leaves. -/
theorem app_row {w W : World} {v : Value} {xs : List Int} {x : Int} (O : W.ownsRow w.heap.size 24 1 v xs.length (xs.map kI)) (hB : Below w.heap.size w W) (hlen : xs.length + 1 ≤ 140737488351232) :
    ∃ a2 m cp w2, (Builtin.append_ #[43, 43] 43 #[v, .slice (some ⟨W.heap.size, 0, none⟩) 1 1]).run Tryz.prog (W.alloc (.cells #[kI x] 24)) = .ok (.slice a2 m cp) w2 ∧ Hid (m = (xs ++ [x]).length) ∧
      Hid (w2.ownsRow w.heap.size 24 1 (.slice a2 m cp) m ((xs ++ [x]).map kI)) ∧ Hid (Below w.heap.size w w2) ∧
      Hid (∀ v' (n : Nat) zs, ApartV v v' → W.ownsRow w.heap.size 24 1 v' n zs → w2.ownsRow w.heap.size 24 1 v' n zs ∧ ApartV (.slice a2 m cp) v') := by
  obtain ⟨i, hi, hz, hs, hby⟩ := info_parts infoKind
  obtain ⟨v2, w2, hr, O2, hg, -, hnb⟩ := run_append_own_at (P := Tryz.prog) (w := W.alloc (.cells #[kI x] 24)) w.heap.size 43 43 24 i _ 1 1 Tryz.underlying43 hi hz hs hby rfl (by omega) v _ _ (O.alloc _) ⟨W.heap.size, 0, none⟩ 1 1 [kI x] rfl (cell_one_new W (kI x) 24)
    (by intro u hu; rw [List.mem_singleton.1 hu]; rfl) (by unfold maxLen; omega) (by omega) (Nat.le_trans hB.size (by simp))
  have e : xs.map kI ++ [kI x] = (xs ++ [x]).map kI := by simp
  have e2 : xs.length + 1 = (xs ++ [x]).length := by simp
  rw [e, e2] at O2
  obtain ⟨a2, cp, rfl⟩ := own_slice O2
  have hrow : ∀ k, v.ownBlock = some k → w.heap.size ≤ k := fun k hk => (O.lt k hk).1
  refine ⟨a2, _, cp, w2, hr, rfl, O2, ?_, fun v' n zs hA O' => ⟨(O'.alloc _).kept hg ?_, ?_⟩⟩
  · have hB1 := bel_alloc hB (.cells #[kI x] 24)
    exact ⟨hg.os.trans hB1.os, hg.tape.trans hB1.tape, hg.output.trans hB1.output, Nat.le_trans hB1.size hg.size, fun k hk => (hg.block k (Nat.lt_of_lt_of_le hk hB1.size) (fun e => by have := hrow k e.symm; omega)).trans (hB1.block k hk)⟩
  · cases hv : v'.ownBlock with
    | none => exact .inl rfl
    | some k => exact .inr fun e => hA k e.symm hv
  · intro k hk e
    rcases hnb with h | h
    · exact hA k (h ▸ hk) e
    · rw [h] at hk
      have h1 := (O'.lt k e).2
      have h2 : (W.alloc (.cells #[kI x] 24)).heap.size = k := Option.some.inj hk
      simp at h2
      omega
theorem cks_drop {l : List Int} {k : Nat} {x : Int} (h : l[k]? = some x) (c : Bool) :
    cks c (l.drop k) = if c && decide (k + 1 < l.length) then (x :: (cks (!c) (l.drop (k + 1))).1, (cks (!c) (l.drop (k + 1))).2) else ((cks (!c) (l.drop (k + 1))).1, x :: (cks (!c) (l.drop (k + 1))).2) := by
  have hk := (List.getElem?_eq_some_iff.1 h).1
  rw [List.drop_eq_getElem_cons hk, cks, (List.getElem?_eq_some_iff.1 h).2]
  have : (!(l.drop (k + 1)).isEmpty) = decide (k + 1 < l.length) := by
    rw [Bool.eq_iff_iff]
    simp [List.isEmpty_iff, List.drop_eq_nil_iff]
  rw [this]
theorem cks_end {l : List Int} {k : Nat} (h : l.length ≤ k) (c : Bool) : cks c (l.drop k) = ([], []) := by rw [List.drop_eq_nil_of_le h]; cases c <;> rfl
set_option maxRecDepth 100000 in
set_option maxHeartbeats 2000000 in
theorem r_caseKinds (a : Option Addr) (n c : Nat) (l : List Int) (hsz : n ≤ 140737488351232) (w : World) (h : One kI w a n l) :
    Calls Tryz.prog 93 #[.slice a n c] w fun e w' => (∃ v2 v3, e = .returned (.tuple #[v2, v3]) ∧ KindsV w' v2 (parts l).1 ∧ KindsV w' v3 (parts l).2) ∧ Below w.heap.size w w' := by
  have HL := Lib.hid h
  have hnl := Lib.hid h.len
  clear h
  go_enter Tryz.func93, Tryz.ntmps93
  go_wp2
  go_loopw [4, 5, 6] (fun s4 s5 s6 wr => ∃ (k m4 c4 m5 c5 : Nat) (a4 a5 : Option Addr) (cs vs : List Int), k ≤ n ∧ s6 = .int .i64 k ∧ s4 = .slice a4 m4 c4 ∧ s5 = .slice a5 m5 c5 ∧ Hid (m4 = cs.length ∧ m5 = vs.length) ∧
      Hid (wr.ownsRow w.heap.size 24 1 (.slice a4 m4 c4) cs.length (cs.map kI)) ∧ Hid (wr.ownsRow w.heap.size 24 1 (.slice a5 m5 c5) vs.length (vs.map kI)) ∧ Hid (ApartV (.slice a4 m4 c4) (.slice a5 m5 c5)) ∧
      Hid (cs ++ (cks (k % 2 == 0) (l.drop k)).1 = (parts l).1 ∧ vs ++ (cks (k % 2 == 0) (l.drop k)).2 = (parts l).2) ∧ Hid (cs.length + vs.length = k) ∧ Hid (Below w.heap.size w wr)) (fun _ _ s6 _ => n - (intOf s6).toNat)
  case atStart => exact ⟨0, 0, 0, 0, 0, none, none, [], [], by omega, rfl, rfl, rfl, ⟨rfl, rfl⟩, World.ownsRow_nil _ _ _ _, World.ownsRow_nil _ _ _ _, (fun k e => by cases e), (show _ ∧ _ by rw [← cks_parts]; exact ⟨rfl, rfl⟩), rfl, Below.refl _ _⟩
  case round =>
    obtain ⟨k, m4, c4, m5, c5, a4, a5, cs, vs, hk, rfl, rfl, rfl, hmm, O4, O5, HA, HI, HS, HB⟩ := hrel
    by_cases hlt : k < n
    · obtain ⟨g, p, x, rfl, hlk, hg, c0⟩ := (HL.out.below HB.out).at_ k hlt
      have HD := Lib.hid (cks_drop hlk (k % 2 == 0))
      have hpar : (!(k % 2 == 0)) = ((k + 1) % 2 == 0) := by
        rcases Nat.mod_two_eq_zero_or_one k with h | h
        · have h' : (k + 1) % 2 = 1 := by omega
          rw [h, h']; rfl
        · have h' : (k + 1) % 2 = 0 := by omega
          rw [h, h']; rfl
      have hx64 : k + 1 < 9223372036854775807 := by omega
      by_cases hcond : k % 2 = 0 ∧ k + 1 < n
      · have HI2 : Hid ((cs ++ [x]) ++ (cks ((k + 1) % 2 == 0) (l.drop (k + 1))).1 = (parts l).1 ∧ vs ++ (cks ((k + 1) % 2 == 0) (l.drop (k + 1))).2 = (parts l).2) := by
          have e := HI.out
          have hd : decide (k + 1 < l.length) = true := by have := hnl.out; simp; omega
          rw [HD.out, hd, if_pos (by rw [hcond.1]; rfl), hpar] at e
          rw [List.append_assoc]; exact e
        obtain ⟨aN, mN, cN, w2, hr, hmN, ON, HBN, hk2⟩ := app_row (x := x) O4.out HB.out (by have := HS.out; omega)
        have hr := Lib.hid hr
        obtain ⟨O5', hA'⟩ := hk2.out _ _ _ HA.out O5.out
        have O5' := Lib.hid O5'
        have hA' := Lib.hid hA'
        have ON' : Hid (w2.ownsRow w.heap.size 24 1 (.slice aN mN cN) (cs ++ [x]).length ((cs ++ [x]).map kI)) := by have := hmN.out; subst this; exact ON.out
        have e1 : (k : Int).tmod 2 = 0 := by rw [Int.tmod_eq_emod_of_nonneg (by omega)]; omega
        have e2 : ((k : Int) + 1 < (n : Int)) := by omega
        clear HD HI O4 O5 HA hk2 ON hpar
        go_wp2_with (at_builtin; refine app_list rfl rfl rfl rfl hr.out ?_)
        exact ⟨⟨k + 1, _, _, _, _, _, _, cs ++ [x], vs, by omega, by go_num, rfl, rfl, ⟨hmN.out, hmm.out.2⟩, ON'.out, O5'.out, hA'.out, HI2.out, (show (cs ++ [x]).length + vs.length = k + 1 by have := HS.out; simp only [List.length_append, List.length_cons, List.length_nil]; omega), HBN.out⟩, by simp [intOf]; omega⟩
      · have HI2 : Hid (cs ++ (cks ((k + 1) % 2 == 0) (l.drop (k + 1))).1 = (parts l).1 ∧ (vs ++ [x]) ++ (cks ((k + 1) % 2 == 0) (l.drop (k + 1))).2 = (parts l).2) := by
          have e := HI.out
          have hd : ((k % 2 == 0) && decide (k + 1 < l.length)) = false := by have := hnl.out; simp; omega
          rw [HD.out, if_neg (by rw [hd]; simp), hpar] at e
          refine ⟨e.1, ?_⟩
          rw [List.append_assoc]; exact e.2
        obtain ⟨aN, mN, cN, w2, hr, hmN, ON, HBN, hk2⟩ := app_row (x := x) O5.out HB.out (by have := HS.out; omega)
        have hr := Lib.hid hr
        obtain ⟨O4', hA'⟩ := hk2.out _ _ _ (fun k hk e => HA.out k e hk) O4.out
        have O4' := Lib.hid O4'
        have hA' : Hid (ApartV (.slice a4 m4 c4) (.slice aN mN cN)) := fun k hk e => hA' k e hk
        have ON' : Hid (w2.ownsRow w.heap.size 24 1 (.slice aN mN cN) (vs ++ [x]).length ((vs ++ [x]).map kI)) := by have := hmN.out; subst this; exact ON.out
        clear HD HI O4 O5 HA hk2 ON hpar
        by_cases hev : k % 2 = 0
        · have e1 : (k : Int).tmod 2 = 0 := by rw [Int.tmod_eq_emod_of_nonneg (by omega)]; omega
          have e2 : ¬ ((k : Int) + 1 < (n : Int)) := by omega
          go_wp2_with (at_builtin; refine app_list rfl rfl rfl rfl hr.out ?_)
          exact ⟨⟨k + 1, _, _, _, _, _, _, cs, vs ++ [x], by omega, by go_num, rfl, rfl, ⟨hmm.out.1, hmN.out⟩, O4'.out, ON'.out, hA'.out, HI2.out, (show cs.length + (vs ++ [x]).length = k + 1 by have := HS.out; simp only [List.length_append, List.length_cons, List.length_nil]; omega), HBN.out⟩, by simp [intOf]; omega⟩
        · have e1 : (k : Int).tmod 2 = 1 := by rw [Int.tmod_eq_emod_of_nonneg (by omega)]; omega
          go_wp2_with (at_builtin; refine app_list rfl rfl rfl rfl hr.out ?_)
          exact ⟨⟨k + 1, _, _, _, _, _, _, cs, vs ++ [x], by omega, by go_num, rfl, rfl, ⟨hmm.out.1, hmN.out⟩, O4'.out, ON'.out, hA'.out, HI2.out, (show cs.length + (vs ++ [x]).length = k + 1 by have := HS.out; simp only [List.length_append, List.length_cons, List.length_nil]; omega), HBN.out⟩, by simp [intOf]; omega⟩
    · have hP : Hid (KindsV wr (.slice a4 m4 c4) (parts l).1 ∧ KindsV wr (.slice a5 m5 c5) (parts l).2) := by
        have e := HI.out
        rw [cks_end (by have := hnl.out; omega), List.append_nil, List.append_nil] at e
        rw [← e.1, ← e.2]
        exact ⟨own_kinds O4.out, own_kinds O5.out⟩
      clear HI O4 O5 HA
      go_wp2
      go_ret2
      exact ⟨⟨_, _, rfl, hP.out.1, hP.out.2⟩, HB.out⟩
end Go.Proofs.YtdipalinddfekaaGreatDoor.K
namespace Go.Proofs.YtdipalinddfekaaGreatDoor.K
open Go.ChangeShapes Go.WideShapes Go.ChangeAt Go.RowKit Go.Proofs.YtdipalinddfekaaGreatDoor.V
def soV (op : Int) : Value := .tuple #[.int .i64 (sortOf op).1, .int .i64 (sortOf op).2]
theorem so_4 (w : World) : Ret 67 #[.int .u8 4] w (soV 4) := by
  go_enter Tryz.func67, Tryz.ntmps67
  go_wp2
  go_ret2
  exact ⟨rfl, by repeat (first | exact Below.refl _ _ | assumption | (refine bel_trans ?_ (by assumption)) | (with_reducible apply bel_alloc) | (with_reducible apply Below.drew) | apply bel_alloc | apply Below.drew | refine bel_set ?_ (by simp; try omega) _)⟩
theorem so_5 (w : World) : Ret 67 #[.int .u8 5] w (soV 5) := by
  go_enter Tryz.func67, Tryz.ntmps67
  go_wp2
  go_ret2
  exact ⟨rfl, by repeat (first | exact Below.refl _ _ | assumption | (refine bel_trans ?_ (by assumption)) | (with_reducible apply bel_alloc) | (with_reducible apply Below.drew) | apply bel_alloc | apply Below.drew | refine bel_set ?_ (by simp; try omega) _)⟩
theorem so_6 (w : World) : Ret 67 #[.int .u8 6] w (soV 6) := by
  go_enter Tryz.func67, Tryz.ntmps67
  go_wp2
  go_ret2
  exact ⟨rfl, by repeat (first | exact Below.refl _ _ | assumption | (refine bel_trans ?_ (by assumption)) | (with_reducible apply bel_alloc) | (with_reducible apply Below.drew) | apply bel_alloc | apply Below.drew | refine bel_set ?_ (by simp; try omega) _)⟩
theorem so_7 (w : World) : Ret 67 #[.int .u8 7] w (soV 7) := by
  go_enter Tryz.func67, Tryz.ntmps67
  go_wp2
  go_ret2
  exact ⟨rfl, by repeat (first | exact Below.refl _ _ | assumption | (refine bel_trans ?_ (by assumption)) | (with_reducible apply bel_alloc) | (with_reducible apply Below.drew) | apply bel_alloc | apply Below.drew | refine bel_set ?_ (by simp; try omega) _)⟩
theorem so_8 (w : World) : Ret 67 #[.int .u8 8] w (soV 8) := by
  go_enter Tryz.func67, Tryz.ntmps67
  go_wp2
  go_ret2
  exact ⟨rfl, by repeat (first | exact Below.refl _ _ | assumption | (refine bel_trans ?_ (by assumption)) | (with_reducible apply bel_alloc) | (with_reducible apply Below.drew) | apply bel_alloc | apply Below.drew | refine bel_set ?_ (by simp; try omega) _)⟩
theorem so_9 (w : World) : Ret 67 #[.int .u8 9] w (soV 9) := by
  go_enter Tryz.func67, Tryz.ntmps67
  go_wp2
  go_ret2
  exact ⟨rfl, by repeat (first | exact Below.refl _ _ | assumption | (refine bel_trans ?_ (by assumption)) | (with_reducible apply bel_alloc) | (with_reducible apply Below.drew) | apply bel_alloc | apply Below.drew | refine bel_set ?_ (by simp; try omega) _)⟩
theorem so_10 (w : World) : Ret 67 #[.int .u8 10] w (soV 10) := by
  go_enter Tryz.func67, Tryz.ntmps67
  go_wp2
  go_ret2
  exact ⟨rfl, by repeat (first | exact Below.refl _ _ | assumption | (refine bel_trans ?_ (by assumption)) | (with_reducible apply bel_alloc) | (with_reducible apply Below.drew) | apply bel_alloc | apply Below.drew | refine bel_set ?_ (by simp; try omega) _)⟩
theorem so_11 (w : World) : Ret 67 #[.int .u8 11] w (soV 11) := by
  go_enter Tryz.func67, Tryz.ntmps67
  go_wp2
  go_ret2
  exact ⟨rfl, by repeat (first | exact Below.refl _ _ | assumption | (refine bel_trans ?_ (by assumption)) | (with_reducible apply bel_alloc) | (with_reducible apply Below.drew) | apply bel_alloc | apply Below.drew | refine bel_set ?_ (by simp; try omega) _)⟩
theorem so_12 (w : World) : Ret 67 #[.int .u8 12] w (soV 12) := by
  go_enter Tryz.func67, Tryz.ntmps67
  go_wp2
  go_ret2
  exact ⟨rfl, by repeat (first | exact Below.refl _ _ | assumption | (refine bel_trans ?_ (by assumption)) | (with_reducible apply bel_alloc) | (with_reducible apply Below.drew) | apply bel_alloc | apply Below.drew | refine bel_set ?_ (by simp; try omega) _)⟩
theorem so_13 (w : World) : Ret 67 #[.int .u8 13] w (soV 13) := by
  go_enter Tryz.func67, Tryz.ntmps67
  go_wp2
  go_ret2
  exact ⟨rfl, by repeat (first | exact Below.refl _ _ | assumption | (refine bel_trans ?_ (by assumption)) | (with_reducible apply bel_alloc) | (with_reducible apply Below.drew) | apply bel_alloc | apply Below.drew | refine bel_set ?_ (by simp; try omega) _)⟩
theorem so_14 (w : World) : Ret 67 #[.int .u8 14] w (soV 14) := by
  go_enter Tryz.func67, Tryz.ntmps67
  go_wp2
  go_ret2
  exact ⟨rfl, by repeat (first | exact Below.refl _ _ | assumption | (refine bel_trans ?_ (by assumption)) | (with_reducible apply bel_alloc) | (with_reducible apply Below.drew) | apply bel_alloc | apply Below.drew | refine bel_set ?_ (by simp; try omega) _)⟩
theorem so_15 (w : World) : Ret 67 #[.int .u8 15] w (soV 15) := by
  go_enter Tryz.func67, Tryz.ntmps67
  go_wp2
  go_ret2
  exact ⟨rfl, by repeat (first | exact Below.refl _ _ | assumption | (refine bel_trans ?_ (by assumption)) | (with_reducible apply bel_alloc) | (with_reducible apply Below.drew) | apply bel_alloc | apply Below.drew | refine bel_set ?_ (by simp; try omega) _)⟩
theorem so_16 (w : World) : Ret 67 #[.int .u8 16] w (soV 16) := by
  go_enter Tryz.func67, Tryz.ntmps67
  go_wp2
  go_ret2
  exact ⟨rfl, by repeat (first | exact Below.refl _ _ | assumption | (refine bel_trans ?_ (by assumption)) | (with_reducible apply bel_alloc) | (with_reducible apply Below.drew) | apply bel_alloc | apply Below.drew | refine bel_set ?_ (by simp; try omega) _)⟩
theorem so_17 (w : World) : Ret 67 #[.int .u8 17] w (soV 17) := by
  go_enter Tryz.func67, Tryz.ntmps67
  go_wp2
  go_ret2
  exact ⟨rfl, by repeat (first | exact Below.refl _ _ | assumption | (refine bel_trans ?_ (by assumption)) | (with_reducible apply bel_alloc) | (with_reducible apply Below.drew) | apply bel_alloc | apply Below.drew | refine bel_set ?_ (by simp; try omega) _)⟩
theorem so_18 (w : World) : Ret 67 #[.int .u8 18] w (soV 18) := by
  go_enter Tryz.func67, Tryz.ntmps67
  go_wp2
  go_ret2
  exact ⟨rfl, by repeat (first | exact Below.refl _ _ | assumption | (refine bel_trans ?_ (by assumption)) | (with_reducible apply bel_alloc) | (with_reducible apply Below.drew) | apply bel_alloc | apply Below.drew | refine bel_set ?_ (by simp; try omega) _)⟩
theorem so_19 (w : World) : Ret 67 #[.int .u8 19] w (soV 19) := by
  go_enter Tryz.func67, Tryz.ntmps67
  go_wp2
  go_ret2
  exact ⟨rfl, by repeat (first | exact Below.refl _ _ | assumption | (refine bel_trans ?_ (by assumption)) | (with_reducible apply bel_alloc) | (with_reducible apply Below.drew) | apply bel_alloc | apply Below.drew | refine bel_set ?_ (by simp; try omega) _)⟩
theorem so_20 (w : World) : Ret 67 #[.int .u8 20] w (soV 20) := by
  go_enter Tryz.func67, Tryz.ntmps67
  go_wp2
  go_ret2
  exact ⟨rfl, by repeat (first | exact Below.refl _ _ | assumption | (refine bel_trans ?_ (by assumption)) | (with_reducible apply bel_alloc) | (with_reducible apply Below.drew) | apply bel_alloc | apply Below.drew | refine bel_set ?_ (by simp; try omega) _)⟩
theorem so_21 (w : World) : Ret 67 #[.int .u8 21] w (soV 21) := by
  go_enter Tryz.func67, Tryz.ntmps67
  go_wp2
  go_ret2
  exact ⟨rfl, by repeat (first | exact Below.refl _ _ | assumption | (refine bel_trans ?_ (by assumption)) | (with_reducible apply bel_alloc) | (with_reducible apply Below.drew) | apply bel_alloc | apply Below.drew | refine bel_set ?_ (by simp; try omega) _)⟩
theorem so_22 (w : World) : Ret 67 #[.int .u8 22] w (soV 22) := by
  go_enter Tryz.func67, Tryz.ntmps67
  go_wp2
  go_ret2
  exact ⟨rfl, by repeat (first | exact Below.refl _ _ | assumption | (refine bel_trans ?_ (by assumption)) | (with_reducible apply bel_alloc) | (with_reducible apply Below.drew) | apply bel_alloc | apply Below.drew | refine bel_set ?_ (by simp; try omega) _)⟩
theorem so_23 (w : World) : Ret 67 #[.int .u8 23] w (soV 23) := by
  go_enter Tryz.func67, Tryz.ntmps67
  go_wp2
  go_ret2
  exact ⟨rfl, by repeat (first | exact Below.refl _ _ | assumption | (refine bel_trans ?_ (by assumption)) | (with_reducible apply bel_alloc) | (with_reducible apply Below.drew) | apply bel_alloc | apply Below.drew | refine bel_set ?_ (by simp; try omega) _)⟩
theorem so_24 (w : World) : Ret 67 #[.int .u8 24] w (soV 24) := by
  go_enter Tryz.func67, Tryz.ntmps67
  go_wp2
  go_ret2
  exact ⟨rfl, by repeat (first | exact Below.refl _ _ | assumption | (refine bel_trans ?_ (by assumption)) | (with_reducible apply bel_alloc) | (with_reducible apply Below.drew) | apply bel_alloc | apply Below.drew | refine bel_set ?_ (by simp; try omega) _)⟩
theorem so_25 (w : World) : Ret 67 #[.int .u8 25] w (soV 25) := by
  go_enter Tryz.func67, Tryz.ntmps67
  go_wp2
  go_ret2
  exact ⟨rfl, by repeat (first | exact Below.refl _ _ | assumption | (refine bel_trans ?_ (by assumption)) | (with_reducible apply bel_alloc) | (with_reducible apply Below.drew) | apply bel_alloc | apply Below.drew | refine bel_set ?_ (by simp; try omega) _)⟩
theorem so_26 (w : World) : Ret 67 #[.int .u8 26] w (soV 26) := by
  go_enter Tryz.func67, Tryz.ntmps67
  go_wp2
  go_ret2
  exact ⟨rfl, by repeat (first | exact Below.refl _ _ | assumption | (refine bel_trans ?_ (by assumption)) | (with_reducible apply bel_alloc) | (with_reducible apply Below.drew) | apply bel_alloc | apply Below.drew | refine bel_set ?_ (by simp; try omega) _)⟩
theorem so_none (op : Int) (h : ¬ (4 ≤ op ∧ op ≤ 26)) (w : World) : Ret 67 #[.int .u8 op] w (soV op) := by
  have h4 : (op == 4) = false := by simp; omega
  have h5 : (op == 5) = false := by simp; omega
  have h6 : (op == 6) = false := by simp; omega
  have h7 : (op == 7) = false := by simp; omega
  have h8 : (op == 8) = false := by simp; omega
  have h9 : (op == 9) = false := by simp; omega
  have h10 : (op == 10) = false := by simp; omega
  have h11 : (op == 11) = false := by simp; omega
  have h12 : (op == 12) = false := by simp; omega
  have h13 : (op == 13) = false := by simp; omega
  have h14 : (op == 14) = false := by simp; omega
  have h15 : (op == 15) = false := by simp; omega
  have h16 : (op == 16) = false := by simp; omega
  have h17 : (op == 17) = false := by simp; omega
  have h18 : (op == 18) = false := by simp; omega
  have h19 : (op == 19) = false := by simp; omega
  have h20 : (op == 20) = false := by simp; omega
  have h21 : (op == 21) = false := by simp; omega
  have h22 : (op == 22) = false := by simp; omega
  have h23 : (op == 23) = false := by simp; omega
  have h24 : (op == 24) = false := by simp; omega
  have h25 : (op == 25) = false := by simp; omega
  have h26 : (op == 26) = false := by simp; omega
  have hv : Hid (soV op = .tuple #[.int .i64 0, .int .i64 0]) := by
    show _ = _
    have e : sortOf op = (0, 0) := by unfold sortOf; repeat (rw [if_neg (by omega)])
    unfold soV; rw [e]
  clear h
  go_enter Tryz.func67, Tryz.ntmps67
  go_wp2
  go_ret2
  exact ⟨by rw [hv.out]; rfl, by repeat (first | exact Below.refl _ _ | assumption | (refine bel_trans ?_ (by assumption)) | (with_reducible apply bel_alloc) | (with_reducible apply Below.drew) | apply bel_alloc | apply Below.drew | refine bel_set ?_ (by simp; try omega) _)⟩
theorem r_sortOf (op : Int) (w : World) : Ret 67 #[.int .u8 op] w (soV op) := by
  by_cases h : 4 ≤ op ∧ op ≤ 26
  · have : op = 4 ∨ op = 5 ∨ op = 6 ∨ op = 7 ∨ op = 8 ∨ op = 9 ∨ op = 10 ∨ op = 11 ∨ op = 12 ∨ op = 13 ∨ op = 14 ∨ op = 15 ∨ op = 16 ∨ op = 17 ∨ op = 18 ∨ op = 19 ∨ op = 20 ∨ op = 21 ∨ op = 22 ∨ op = 23 ∨ op = 24 ∨ op = 25 ∨ op = 26 := by omega
    rcases this with rfl | rfl | rfl | rfl | rfl | rfl | rfl | rfl | rfl | rfl | rfl | rfl | rfl | rfl | rfl | rfl | rfl | rfl | rfl | rfl | rfl | rfl | rfl
    · exact so_4 w
    · exact so_5 w
    · exact so_6 w
    · exact so_7 w
    · exact so_8 w
    · exact so_9 w
    · exact so_10 w
    · exact so_11 w
    · exact so_12 w
    · exact so_13 w
    · exact so_14 w
    · exact so_15 w
    · exact so_16 w
    · exact so_17 w
    · exact so_18 w
    · exact so_19 w
    · exact so_20 w
    · exact so_21 w
    · exact so_22 w
    · exact so_23 w
    · exact so_24 w
    · exact so_25 w
    · exact so_26 w
  · exact so_none op h w
/-- What the reference's kindOf hands back: the kind where there is one, and whether. -/
def KO (r : Option Int) (v : Value) : Prop := ∃ k, v = .tuple #[.int .u8 k, .bool r.isSome] ∧ ∀ z, r = some z → k = z
theorem ko_1 (a : Option Addr) (n c : Nat) (l : List Int) (hsz : n ≤ 140737488351232) (w : World) (h : One kI w a n l) : Calls Tryz.prog 68 #[.int .i64 1, .slice a n c] w fun e w' => (∃ v, e = .returned v ∧ KO (kindOf 1 l) v) ∧ Below w.heap.size w w' := by
  have hk : Hid (KO (kindOf 1 l) (.tuple #[.int .u8 1, .bool (allAg l 1)])) := by
    refine ⟨1, ?_, fun z hz => ?_⟩
    · simp only [kindOf]; cases allAg l 1 <;> rfl
    · simp [kindOf] at hz; omega
  go_enter Tryz.func68, Tryz.ntmps68
  go_wp2_with fail
  refine (r_allAgree 1 a n c l (by omega) _ h).mono ?_
  rintro e w1 ⟨rfl, hb1⟩
  go_wp2
  go_ret2
  exact ⟨⟨_, rfl, hk.out⟩, hb1⟩
theorem ko_2 (a : Option Addr) (n c : Nat) (l : List Int) (hsz : n ≤ 140737488351232) (w : World) (h : One kI w a n l) : Calls Tryz.prog 68 #[.int .i64 2, .slice a n c] w fun e w' => (∃ v, e = .returned v ∧ KO (kindOf 2 l) v) ∧ Below w.heap.size w w' := by
  have hk : Hid (KO (kindOf 2 l) (.tuple #[.int .u8 2, .bool (allAg l 2)])) := by
    refine ⟨2, ?_, fun z hz => ?_⟩
    · simp only [kindOf]; cases allAg l 2 <;> rfl
    · simp [kindOf] at hz; omega
  go_enter Tryz.func68, Tryz.ntmps68
  go_wp2_with fail
  refine (r_allAgree 2 a n c l (by omega) _ h).mono ?_
  rintro e w1 ⟨rfl, hb1⟩
  go_wp2
  go_ret2
  exact ⟨⟨_, rfl, hk.out⟩, hb1⟩
theorem ko_3 (a : Option Addr) (n c : Nat) (l : List Int) (hsz : n ≤ 140737488351232) (w : World) (h : One kI w a n l) : Calls Tryz.prog 68 #[.int .i64 3, .slice a n c] w fun e w' => (∃ v, e = .returned v ∧ KO (kindOf 3 l) v) ∧ Below w.heap.size w w' := by
  have hk : Hid (KO (kindOf 3 l) (.tuple #[.int .u8 1, .bool (allAg l 2)])) := by
    refine ⟨1, ?_, fun z hz => ?_⟩
    · simp only [kindOf]; cases allAg l 2 <;> rfl
    · simp [kindOf] at hz; omega
  go_enter Tryz.func68, Tryz.ntmps68
  go_wp2_with fail
  refine (r_allAgree 2 a n c l (by omega) _ h).mono ?_
  rintro e w1 ⟨rfl, hb1⟩
  go_wp2
  go_ret2
  exact ⟨⟨_, rfl, hk.out⟩, hb1⟩
theorem ko_5 (a : Option Addr) (n c : Nat) (l : List Int) (hsz : n ≤ 140737488351232) (w : World) (h : One kI w a n l) : Calls Tryz.prog 68 #[.int .i64 5, .slice a n c] w fun e w' => (∃ v, e = .returned v ∧ KO (kindOf 5 l) v) ∧ Below w.heap.size w w' := by
  have hk : Hid (KO (kindOf 5 l) (.tuple #[.int .u8 3, .bool (allAg l 2)])) := by
    refine ⟨3, ?_, fun z hz => ?_⟩
    · simp only [kindOf]; cases allAg l 2 <;> rfl
    · simp [kindOf] at hz; omega
  go_enter Tryz.func68, Tryz.ntmps68
  go_wp2_with fail
  refine (r_allAgree 2 a n c l (by omega) _ h).mono ?_
  rintro e w1 ⟨rfl, hb1⟩
  go_wp2
  go_ret2
  exact ⟨⟨_, rfl, hk.out⟩, hb1⟩
theorem ko_7 (a : Option Addr) (n c : Nat) (l : List Int) (hsz : n ≤ 140737488351232) (w : World) (h : One kI w a n l) : Calls Tryz.prog 68 #[.int .i64 7, .slice a n c] w fun e w' => (∃ v, e = .returned v ∧ KO (kindOf 7 l) v) ∧ Below w.heap.size w w' := by
  have hk : Hid (KO (kindOf 7 l) (.tuple #[.int .u8 3, .bool (allAg l 3)])) := by
    refine ⟨3, ?_, fun z hz => ?_⟩
    · simp only [kindOf]; cases allAg l 3 <;> rfl
    · simp [kindOf] at hz; omega
  go_enter Tryz.func68, Tryz.ntmps68
  go_wp2_with fail
  refine (r_allAgree 3 a n c l (by omega) _ h).mono ?_
  rintro e w1 ⟨rfl, hb1⟩
  go_wp2
  go_ret2
  exact ⟨⟨_, rfl, hk.out⟩, hb1⟩
theorem ko_8 (a : Option Addr) (n c : Nat) (l : List Int) (hsz : n ≤ 140737488351232) (w : World) (h : One kI w a n l) : Calls Tryz.prog 68 #[.int .i64 8, .slice a n c] w fun e w' => (∃ v, e = .returned v ∧ KO (kindOf 8 l) v) ∧ Below w.heap.size w w' := by
  have hk : Hid (KO (kindOf 8 l) (.tuple #[.int .u8 3, .bool (allAg l 3)])) := by
    refine ⟨3, ?_, fun z hz => ?_⟩
    · simp only [kindOf]; cases allAg l 3 <;> rfl
    · simp [kindOf] at hz; omega
  go_enter Tryz.func68, Tryz.ntmps68
  go_wp2_with fail
  refine (r_allAgree 3 a n c l (by omega) _ h).mono ?_
  rintro e w1 ⟨rfl, hb1⟩
  go_wp2
  go_ret2
  exact ⟨⟨_, rfl, hk.out⟩, hb1⟩
theorem ko_6 (a : Option Addr) (n c : Nat) (l : List Int) (w : World) : Calls Tryz.prog 68 #[.int .i64 6, .slice a n c] w fun e w' => (∃ v, e = .returned v ∧ KO (kindOf 6 l) v) ∧ Below w.heap.size w w' := by
  go_enter Tryz.func68, Tryz.ntmps68
  go_wp2
  go_ret2
  exact ⟨⟨_, rfl, 3, by simp [kindOf], fun z hz => by simp [kindOf] at hz; omega⟩, by repeat (first | exact Below.refl _ _ | assumption | (refine bel_trans ?_ (by assumption)) | (with_reducible apply bel_alloc) | (with_reducible apply Below.drew) | apply bel_alloc | apply Below.drew | refine bel_set ?_ (by simp; try omega) _)⟩
theorem ko_4 (a : Option Addr) (n c : Nat) (l : List Int) (h2 : n = 2) (w : World) (h : One kI w a n l) : Calls Tryz.prog 68 #[.int .i64 4, .slice a n c] w fun e w' => (∃ v, e = .returned v ∧ KO (kindOf 4 l) v) ∧ Below w.heap.size w w' := by
  subst h2
  obtain ⟨g, p, x, rfl, hx, hg, c0⟩ := h.at_ 0 (by omega)
  obtain ⟨g2, p2, y, e2, hy, hg2, c1⟩ := h.at_ 1 (by omega)
  cases e2
  have hk : Hid (KO (kindOf 4 l) (.tuple #[.int .u8 3, .bool (agree x y)])) := by
    refine ⟨3, ?_, fun z hz => ?_⟩
    · simp only [kindOf, List.getD_eq_getElem?_getD, hx, hy, Option.getD_some]
      cases agree x y <;> rfl
    · simp only [kindOf, List.getD_eq_getElem?_getD, hx, hy, Option.getD_some] at hz
      cases hag : agree x y <;> rw [hag] at hz <;> simp at hz
      exact hz
  rw [Nat.add_zero] at c0
  clear hx hy h
  go_enter Tryz.func68, Tryz.ntmps68
  go_wp2_with fail
  refine region_far (by kernel_rfl) (by kernel_rfl) ?_
  repeat (go_big_quiet_step ((first | (go_at_call 92; with_reducible exact call_far (r_Agree _ _ _)))))
  refine wpQuiet_nil ?_
  intro wq hbq
  go_wp2
  go_ret2
  exact ⟨⟨_, rfl, hk.out⟩, hbq⟩
theorem ko_9 (a : Option Addr) (n c : Nat) (l : List Int) (hsz : n ≤ 140737488351232) (w : World) (h : One kI w a n l) : Calls Tryz.prog 68 #[.int .i64 9, .slice a n c] w fun e w' => (∃ v, e = .returned v ∧ KO (kindOf 9 l) v) ∧ Below w.heap.size w w' := by
  have hk : Hid (kindOf 9 l = if allAg (parts l).1 3 then com 0 (parts l).2 else none) := rfl
  have HL := Lib.hid h
  clear h
  go_enter Tryz.func68, Tryz.ntmps68
  go_wp2_with fail
  refine (r_caseKinds a n c l hsz _ HL.out).mono ?_
  rintro e w1 ⟨⟨u2, u3, rfl, ⟨a2, n2, cc2, rfl, hn2, HK2⟩, ⟨a3, n3, cc3, rfl, hn3, HK3⟩⟩, hb1⟩
  have HB1 := Lib.hid hb1
  have HKK2 := Lib.hid HK2
  have HKK3 := Lib.hid HK3
  clear HK2 HK3 hb1
  go_wp2_with fail
  refine (r_Common a3 n3 cc3 _ hn3 _ HKK3.out).mono ?_
  rintro e w2 ⟨rfl, hb2⟩
  have HB2 : Hid (Below w.heap.size w w2) := bel_trans HB1.out hb2
  have HKK4 := Lib.hid (HKK2.out.below hb2)
  clear hb2
  cases hq : com 0 (parts l).2 with
  | none =>
    have hk2 : Hid (kindOf 9 l = none) := by show _ = _; rw [hk.out, hq]; split <;> rfl
    simp only [comV]
    go_wp2_with fail
    go_ret2
    exact ⟨⟨_, rfl, 0, by rw [hk2.out]; rfl, fun z hz => by rw [hk2.out] at hz; cases hz⟩, HB2.out⟩
  | some z =>
    have hk2 : Hid (kindOf 9 l = if allAg (parts l).1 3 then some z else none) := by show _ = _; rw [hk.out, hq]
    simp only [comV]
    go_wp2_with fail
    refine (r_allAgree 3 a2 n2 cc2 _ hn2 _ HKK4.out).mono ?_
    rintro e w3 ⟨rfl, hb3⟩
    have HB3 : Hid (Below w.heap.size w w3) := bel_trans HB2.out hb3
    clear hb3
    go_wp2
    go_ret2
    exact ⟨⟨_, rfl, z, by rw [hk2.out]; cases allAg (parts l).1 3 <;> rfl, fun y hy => by rw [hk2.out] at hy; simp at hy; exact hy.2⟩, HB3.out⟩
theorem ko_10 (a : Option Addr) (n c : Nat) (l : List Int) (hsz : n ≤ 140737488351232) (w : World) (h : One kI w a n l) : Calls Tryz.prog 68 #[.int .i64 10, .slice a n c] w fun e w' => (∃ v, e = .returned v ∧ KO (kindOf 10 l) v) ∧ Below w.heap.size w w' := by
  have hk : Hid (kindOf 10 l = com 0 l) := rfl
  have HL := Lib.hid h
  clear h
  go_enter Tryz.func68, Tryz.ntmps68
  go_wp2_with fail
  refine (r_Common a n c _ (by omega) _ HL.out).mono ?_
  rintro e w2 ⟨rfl, hb2⟩
  have HB2 := Lib.hid hb2
  clear hb2
  cases hq : com 0 l with
  | none =>
    simp only [comV]
    go_wp2
    go_ret2
    exact ⟨⟨_, rfl, 0, by rw [hk.out, hq]; rfl, fun z hz => by rw [hk.out, hq] at hz; cases hz⟩, HB2.out⟩
  | some z =>
    simp only [comV]
    go_wp2
    go_ret2
    exact ⟨⟨_, rfl, z, by rw [hk.out, hq]; rfl, fun y hy => by rw [hk.out, hq] at hy; exact Option.some.inj hy⟩, HB2.out⟩
theorem r_kindOf (s : Int) (hs : 1 ≤ s ∧ s ≤ 10) (a : Option Addr) (n c : Nat) (l : List Int) (h2 : s = 4 → n = 2) (hsz : n ≤ 140737488351232) (w : World) (h : One kI w a n l) : Calls Tryz.prog 68 #[.int .i64 s, .slice a n c] w fun e w' => (∃ v, e = .returned v ∧ KO (kindOf s l) v) ∧ Below w.heap.size w w' := by
  have : s = 1 ∨ s = 2 ∨ s = 3 ∨ s = 4 ∨ s = 5 ∨ s = 6 ∨ s = 7 ∨ s = 8 ∨ s = 9 ∨ s = 10 := by omega
  rcases this with rfl | rfl | rfl | rfl | rfl | rfl | rfl | rfl | rfl | rfl
  · exact ko_1 a n c l hsz w h
  · exact ko_2 a n c l hsz w h
  · exact ko_3 a n c l hsz w h
  · exact ko_4 a n c l (h2 rfl) w h
  · exact ko_5 a n c l hsz w h
  · exact ko_6 a n c l w
  · exact ko_7 a n c l hsz w h
  · exact ko_8 a n c l hsz w h
  · exact ko_9 a n c l hsz w h
  · exact ko_10 a n c l hsz w h
end Go.Proofs.YtdipalinddfekaaGreatDoor.K
namespace Go.Proofs.YtdipalinddfekaaGreatDoor.K
open Go.ChangeShapes Go.WideShapes Go.ChangeAt Go.RowKit Go.Proofs.YtdipalinddfekaaGreatDoor.V
/-- Whether the number of kids is right, by the sort. -/
def numOk (s m : Int) (n : Nat) : Bool := !(s == 0 || (decide (0 ≤ m) && (n : Int) != m) || (s == 9 && decide (n < 2)) || (s == 10 && decide (n < 1)))
theorem kind_a {op : Int} {l : List Int} {n : Nat} (hn : n = l.length) (h : numOk (sortOf op).1 (sortOf op).2 n = false) : kind op l = (0, 1) := by
  unfold kind takes
  subst hn
  unfold numOk at h
  rw [h]; rfl
theorem kind_b {op : Int} {l : List Int} (h : l.all (fun k => decide (k ≤ 3)) = false) : kind op l = (0, 1) := by
  unfold kind takes
  rw [h, Bool.and_false]; rfl
theorem kind_c {op : Int} {l : List Int} {n : Nat} (hn : n = l.length) (h : numOk (sortOf op).1 (sortOf op).2 n = true) (h2 : l.all (fun k => decide (k ≤ 3)) = true) : kind op l = match kindOf (sortOf op).1 l with | some k => (k, 0) | none => (0, 50) := by
  unfold kind takes
  subst hn
  unfold numOk at h
  rw [h, h2]; rfl
theorem so_bounds (op : Int) : 0 ≤ (sortOf op).1 ∧ (sortOf op).1 ≤ 10 ∧ ((sortOf op).1 = 4 → (sortOf op).2 = 2) := by
  unfold sortOf
  repeat' split
  all_goals simp
theorem le_drop {l : List Int} {k : Nat} {x : Int} (h : l[k]? = some x) : (l.drop k).all (fun k => decide (k ≤ 3)) = (decide (x ≤ 3) && (l.drop (k + 1)).all (fun k => decide (k ≤ 3))) := by
  rw [List.drop_eq_getElem_cons (List.getElem?_eq_some_iff.1 h).1, List.all_cons, (List.getElem?_eq_some_iff.1 h).2]
set_option maxRecDepth 100000 in
set_option maxHeartbeats 4000000 in
theorem r_Kind (op : Int) (a : Option Addr) (n c : Nat) (l : List Int) (hsz : n ≤ 140737488351232) (w : World) (h : One kI w a n l) : Ret 32 #[.int .u8 op, .slice a n c] w (kV (kind op l)) := by
  have HL := Lib.hid h
  have hnl := Lib.hid h.len
  have HA := Lib.hid (kind_a (op := op) h.len)
  have HB := Lib.hid (kind_b (op := op) (l := l))
  have HC := Lib.hid (kind_c (op := op) h.len)
  have hso : Hid (∀ w, Ret 67 #[.int .u8 op] w (.tuple #[.int .i64 (sortOf op).1, .int .i64 (sortOf op).2])) := fun w => r_sortOf op w
  obtain ⟨hs0, hs10, hs4⟩ := so_bounds op
  have hs4 := Lib.hid hs4
  clear h
  generalize (sortOf op).1 = s at *
  generalize (sortOf op).2 = m at *
  generalize kind op l = R at *
  cases hno : numOk s m n with
  | false =>
    have HR : Hid (R = (0, 1)) := HA.out hno
    clear HA HB HC
    unfold numOk at hno
    have h0 : (s == 0 || (decide (0 ≤ m) && (n : Int) != m) || (s == 9 && decide (n < 2)) || (s == 10 && decide (n < 1))) = true := by rw [Bool.not_eq_false'] at hno; exact hno
    clear hno
    go_enter Tryz.func32, Tryz.ntmps32
    go_wp2_with fail
    refine (hso.out _).mono ?_
    rintro e w1 ⟨rfl, hb1⟩
    have HB1 := Lib.hid hb1
    clear hb1
    by_cases g1 : s = 0
    · subst g1
      go_wp2
      go_ret2
      exact ⟨ret_k HR.out.symm, HB1.out⟩
    · have g1' : (s == 0) = false := by simpa using g1
      by_cases g2 : 0 ≤ m ∧ (n : Int) ≠ m
      · have g3 : ((n : Int) != m) = true := by simpa using g2.2
        have g4 := g2.1
        have g5 : m ≥ 0 := g2.1
        clear h0
        go_wp2
        go_ret2
        exact ⟨ret_k HR.out.symm, HB1.out⟩
      · by_cases g6 : s = 9
        · subst g6
          have g7 : n < 2 := by
            have e : (decide (0 ≤ m) && (n : Int) != m) = false := by simp; omega
            rw [e] at h0; simpa using h0
          have g8 : (n : Int) < 2 := by omega
          clear h0
          by_cases g9 : m ≥ 0
          · have g10 : ((n : Int) != m) = false := by simp; omega
            go_wp2
            go_ret2
            exact ⟨ret_k HR.out.symm, HB1.out⟩
          · go_wp2
            go_ret2
            exact ⟨ret_k HR.out.symm, HB1.out⟩
        · have g7 : s = 10 := by
            have e : (decide (0 ≤ m) && (n : Int) != m) = false := by simp; omega
            have e2 : (s == 9) = false := by simpa using g6
            rw [e, g1', e2] at h0
            simp at h0; exact h0.1
          subst g7
          have g7 : n < 1 := by
            have e : (decide (0 ≤ m) && (n : Int) != m) = false := by simp; omega
            rw [e] at h0; simpa using h0
          have g8 : (n : Int) < 1 := by omega
          clear h0
          by_cases g9 : m ≥ 0
          · have g10 : ((n : Int) != m) = false := by simp; omega
            go_wp2
            go_ret2
            exact ⟨ret_k HR.out.symm, HB1.out⟩
          · go_wp2
            go_ret2
            exact ⟨ret_k HR.out.symm, HB1.out⟩
  | true =>
    have HC2 := Lib.hid (HC.out hno)
    have h0 : s ≠ 0 ∧ ¬ (0 ≤ m ∧ (n : Int) ≠ m) ∧ ¬ (s = 9 ∧ n < 2) ∧ ¬ (s = 10 ∧ n < 1) := by
      unfold numOk at hno
      simp at hno
      omega
    clear hno HA HC
    have hs2 : s = 4 → n = 2 := fun e => by have := hs4.out e; omega
    have hs2 := Lib.hid hs2
    go_enter Tryz.func32, Tryz.ntmps32
    go_wp2_with fail
    refine (hso.out _).mono ?_
    rintro e w1 ⟨rfl, hb1⟩
    have HB1 := Lib.hid hb1
    clear hb1
    have g1 : (s == 0) = false := by simpa using h0.1
    have hm : (m ≥ 0 ∧ ((n : Int) != m) = false) ∨ ¬ m ≥ 0 := by
      by_cases g : m ≥ 0
      · exact .inl ⟨g, by simp; omega⟩
      · exact .inr g
    have hs9 : ((s == 9) = true ∧ ¬ (n : Int) < 2) ∨ (s == 9) = false := by
      by_cases g : s = 9
      · exact .inl ⟨by simpa using g, by omega⟩
      · exact .inr (by simpa using g)
    have hs10' : ((s == 10) = true ∧ ¬ (n : Int) < 1) ∨ (s == 10) = false := by
      by_cases g : s = 10
      · exact .inl ⟨by simpa using g, by omega⟩
      · exact .inr (by simpa using g)
    have hsr : Hid (1 ≤ s ∧ s ≤ 10) := by have := h0.1; exact ⟨by omega, hs10⟩
    clear h0 hs4 hs0 hs10
    rcases hm with ⟨m1, m2⟩ | m1 <;> rcases hs9 with ⟨n1, n2⟩ | n1 <;> rcases hs10' with ⟨k1, k2⟩ | k1
    all_goals
      go_wp2
      go_loopw [8] (fun s8 wr => ∃ (k : Nat), k ≤ n ∧ s8 = .int .i64 k ∧ Hid ((l.drop k).all (fun k => decide (k ≤ 3)) = l.all (fun k => decide (k ≤ 3))) ∧ Hid (Below w.heap.size w wr)) (fun s8 _ => n - (intOf s8).toNat)
      case atStart => exact ⟨0, by omega, rfl, rfl, HB1.out⟩
      case round =>
        obtain ⟨k, hk, rfl, HI, HBr⟩ := hrel
        by_cases hlt : k < n
        · obtain ⟨g, p, x, rfl, hlk, hg, c0⟩ := (HL.out.below HBr.out).at_ k hlt
          have HI2 := Lib.hid ((le_drop hlk).symm.trans HI.out)
          clear HI hlk
          by_cases hx : x > 3
          · have hx' : 3 < x := hx
            have HR : Hid (R = (0, 1)) := HB.out (by rw [← HI2.out]; have : decide (x ≤ 3) = false := (by simp; omega); rw [this]; rfl)
            clear HI2 HC2 HB
            go_wp2
            go_ret2
            exact ⟨ret_k HR.out.symm, HBr.out⟩
          · have hx' : ¬ 3 < x := hx
            have HI3 : Hid ((l.drop (k + 1)).all (fun k => decide (k ≤ 3)) = l.all (fun k => decide (k ≤ 3))) := by
              have e := HI2.out
              have : decide (x ≤ 3) = true := by simp; omega
              rw [this, Bool.true_and] at e; exact e
            clear HI2
            go_wp2
            exact ⟨⟨k + 1, by omega, by go_num, HI3.out, HBr.out⟩, by simp [intOf]; omega⟩
        · have hall : l.all (fun k => decide (k ≤ 3)) = true := by
            rw [← HI.out, List.drop_eq_nil_of_le (by have := hnl.out; omega)]; rfl
          have HR : Hid (R = match kindOf s l with | some k => (k, 0) | none => (0, 50)) := HC2.out hall
          clear HI HC2 HB hall
          go_wp2_with fail
          refine (r_kindOf s hsr.out a n c l hs2.out hsz _ (HL.out.below HBr.out)).mono ?_
          rintro e w2 ⟨⟨v, rfl, z, rfl, hz⟩, hb2⟩
          have HB2 : Hid (Below w.heap.size w w2) := bel_trans HBr.out hb2
          clear hb2
          cases hq : kindOf s l with
          | none =>
            simp only [hq, Option.isSome_none] at HR ⊢
            go_wp2
            go_ret2
            exact ⟨ret_k HR.out.symm, HB2.out⟩
          | some y =>
            have hzy := hz y hq
            subst hzy
            simp only [hq, Option.isSome_some] at HR ⊢
            clear hz
            go_wp2
            go_ret2
            exact ⟨ret_k HR.out.symm, HB2.out⟩
end Go.Proofs.YtdipalinddfekaaGreatDoor.K
namespace Go.Proofs.YtdipalinddfekaaGreatDoor.L
open Go.ChangeShapes Go.WideShapes Go.ChangeAt Go.RowKit Go.Joins
section
variable {H : Type} {enc : TypeId × Value → H} {P : Program}
def rowed (P : Program) (ts : List TypeId) : Bool := ts.all fun t => P.readableRec t && decide (t < P.types.size)
theorem trodAll_below (hl : laidOutB P = true) {W W' : World} (hb : Below W.heap.size W W') : ∀ {ts : List TypeId} {vs : List Value} {ds : List (DataW H)} {ps : List MemPlace}, rowed P ts = true →
    DataW.TrodAll enc P W 0 (fun _ => true) true ts vs ds ps → (∀ x ∈ ps, x.block < W.heap.size) → DataW.TrodAll enc P W' 0 (fun b => decide (b < W.heap.size)) true ts vs ds ps
  | [], [], [], _, _, h, _ => h
  | [], [], _ :: _, _, _, h, _ => h.elim
  | [], _ :: _, _, _, _, h, _ => h.elim
  | _ :: _, [], _, _, _, h, _ => h.elim
  | _ :: _, _ :: _, [], _, _, h, _ => h.elim
  | t :: ts, v :: vs, d :: ds, ps, hr, h, hlt => by
    obtain ⟨p, q, h1, h2, rfl⟩ := h
    simp only [rowed, List.all_cons, Bool.and_eq_true, decide_eq_true_eq] at hr
    exact ⟨p, q, Below.trod hl hr.1.1 hr.1.2 h1 hb (fun x hx => hlt x (by simp [hx])), trodAll_below hl hb (by simpa [rowed] using hr.2) h2 (fun x hx => hlt x (by simp [hx])), rfl⟩
theorem law_post {f : Func} {s : ChangeSpec} {apart handsOn : Bool} {W W' : World} {args : Array Value} {ds gs : List (DataW H)} {before : List MemPlace} {tb : TypeId}
    (hl : laidOutB P = true) (hr : rowed P f.params.toList = true) (hres : f.resultTypes = #[tb]) (hb : P.underlying tb = some .bool) (hv : s.vars = [])
    (hfn : s.fn H (ds ++ gs) = { results := [.lit (.bool true)], args := ds })
    (hW : DataW.Whole enc P f.params.toList s.vars apart W args.toList ds gs before) (hB : Below W.heap.size W W') : s.post enc P f apart true handsOn false W args (.bool true) W' := by
  have hW' := hW
  have hlt := hW.lt
  obtain ⟨p, q, hA, hV, rfl, _, _⟩ := hW
  rw [hv] at hV
  obtain ⟨rfl, rfl⟩ := trodVars_none hV
  have hA' : DataW.TrodAll enc P W 0 (fun _ => true) true f.params.toList args.toList ds p := hA
  refine ⟨ds, [], p ++ [], [], p, [], hW', ?_, ?_, ?_, hB.frame _, fun h => by cases h⟩
  · rw [hfn, hres]
    exact trodAll_mk1 (shut_bool hb true)
  · rw [hfn]
    exact trodAll_below hl hB hr hA' (fun x hx => hlt x (by simp [hx]))
  · rw [hfn, hv]
    rfl

/-- The wrap of a row that lists variables, the world's shape kept. -/
theorem returnsInHanded_of_change_all {a : Assume} {C : Checked} {os : Os} {f : FuncId} {fn : Func} {s : ChangeSpec} {conds : List PathCond} {apart fresh handsOn again : Bool} {X : World → Array Value → Prop}
    (hX : ∀ (w w' : World) (args : Array Value), w.heap = w'.heap → X w args → X w' args)
    (own : ownKnob C.prog.godebug = none) (started : os.Started) (noInit : C.prog.inits.idxOf? f = none) (hfn : C.prog.funcs[f]? = some fn)
    (witness : ∃ (w : World) (tape : Tape) (i : Input), w.os = os ∧ (w.forCall tape i).Shaped C.prog ∧ i.vars = [] ∧ Input.okWide C.prog (w.forCall tape i) .any w.heap.size f i ∧
      ((s.pre enc C.prog fn conds apart (w.forCall tape i).memory i.args ∧ X (w.forCall tape i).memory i.args) ∧ sizedMet enc C.prog fn (OpenSpec.ofChange s) apart (w.forCall tape i).memory i.args) ∧ a.holds C.prog (lone (Frame.enter C.prog f i.args .normal) [] (w.forCall tape i)))
    (contract : ∀ (W : World) (base : Nat) (args : Array Value) (ds gs : List (DataW H)) (before : List MemPlace),
      (∀ (j : Nat) t v, fn.params[j]? = some t → args[j]? = some v → Value.okWide C.prog W .any base t v) →
      DataW.Whole enc C.prog fn.params.toList s.vars apart W args.toList ds gs before →
      conds.all (PathCond.test C.prog ⟨fn.params.toList, ds, s.plain.varTypes C.prog, gs⟩) = true →
      (DataW.weightsEach C.prog (fn.params.toList ++ s.plain.varTypes C.prog) (ds ++ gs)).all (· ≤ reachBytes) = true → X W args →
      W.ShapedOpen C.prog →
      a.holds C.prog (lone (Frame.enter C.prog f args .normal) [] W) →
      Calls C.prog f args W fun e W' => ∃ v, e = .returned v ∧ s.post enc C.prog fn apart fresh handsOn again W args v W') :
    ReturnsInHanded a C os f .any (fun w args => (s.pre enc C.prog fn conds apart w args ∧ X w args) ∧ sizedMet enc C.prog fn (OpenSpec.ofChange s) apart w args) (s.post enc C.prog fn apart fresh handsOn again) := by
  refine returnsInHanded_of_calls own started noInit witness ?_
  intro w tape i _ hsh _ hok hpre hholds
  obtain ⟨_, _, _, fn', hfn', _, _, _, _, hval⟩ := hok
  have e : fn' = fn := Option.some.inj (hfn'.symm.trans hfn)
  subst e
  obtain ⟨⟨⟨ds, gs, before, hw, hc⟩, hx⟩, hz⟩ := hpre
  have hw' := DataW.Whole.of_heap (w' := w.forCall tape i) (by rfl) hw
  refine (contract (w.forCall tape i) w.heap.size i.args ds gs before hval hw' hc (hz.weights hw) (hX _ _ _ (by rfl) hx) hsh hholds).mono fun e W' ⟨v, he, hp⟩ => ?_
  subst he
  exact ChangeSpec.post_blind hp
end
set_option maxRecDepth 100000
theorem cells_val : Tryz.prog.cellsOf 26 = 3 := by kernel_rfl
/-- A value as an argument: its three fields. -/
theorem open_val {H : Type} {enc : TypeId × Value → H} {W : World} {r : Reach} {b0 base : Nat} {sp : Nat → Bool} {held : Bool} {v : Value} {d : DataW H} {p : List MemPlace}
    (hv : Value.okWide Tryz.prog W r b0 26 v) (h : DataW.Trod enc Tryz.prog W base sp held 26 v d p) :
    ∃ (k n : Int) (s : ByteArray), v = .agg #[.int .u8 k, .int .i64 n, .string s] ∧ d = .agg [.lit (.int .u8 k), .lit (.int .i64 n), .lit (.string s.data.toList)] ∧ (Lit.int .u8 k).wf = true ∧ (Lit.int .i64 n).wf = true ∧ s.size ≤ maxLen := by
  obtain ⟨c0, c1, c2, y0, y1, y2, fu, rfl, e0, ep, t0, t1, t2⟩ := open_agg3 Tryz.underlying26 (by kernel_rfl) cells_val hv h
  obtain ⟨k, ek, rfl, wk⟩ := DataW.trod_int Tryz.underlying24 t0
  obtain ⟨n, en, rfl, wn⟩ := DataW.trod_int Tryz.underlying2 t1
  obtain ⟨s0, es, rfl, ws⟩ := DataW.trod_string Tryz.underlying9 t2
  simp only [List.cons.injEq, and_true] at ek en es
  subst ek en es
  exact ⟨k, n, s0, rfl, e0, wk, wn, ws⟩
end Go.Proofs.YtdipalinddfekaaGreatDoor.L
namespace Go.Proofs.YtdipalinddfekaaGreatDoor.KD
open Go.ChangeShapes Go.WideShapes Go.ChangeAt Go.RowKit Go.Proofs.YtdipalinddfekaaGreatDoor.V Go.Proofs.YtdipalinddfekaaGreatDoor.K
def oc (o : Ot) : List Value := [.int .u8 o.k, .int .i64 o.n, .string o.s, .int .i64 o.e]
def flat (l : List Ot) : List Value := l.flatMap oc
theorem flat_app (a b : List Ot) : flat (a ++ b) = flat a ++ flat b := by simp [flat]
theorem flat_len : ∀ l : List Ot, (flat l).length = l.length * 4
  | [] => rfl
  | o :: l => by
    have := flat_len l
    rw [show flat (o :: l) = oc o ++ flat l by simp [flat], List.length_append, this, List.length_cons]
    simp [oc]; omega
theorem flat_at : ∀ (l : List Ot) (k : Nat) (o : Ot), l[k]? = some o → ∀ j, j < 4 → (flat l)[k * 4 + j]? = (oc o)[j]?
  | x :: l, 0, o, h, j, hj => by
    have : x = o := Option.some.inj h
    subst this
    rw [show flat (x :: l) = oc x ++ flat l by simp [flat], Nat.zero_mul, Nat.zero_add, List.getElem?_append_left (by simp [oc]; omega)]
  | x :: l, k + 1, o, h, j, hj => by
    rw [show flat (x :: l) = oc x ++ flat l by simp [flat], List.getElem?_append_right (by simp [oc]; omega)]
    have e : (k + 1) * 4 + j - (oc x).length = k * 4 + j := by simp [oc]; omega
    rw [e]
    exact flat_at l k o h j hj
theorem infoOut : (Tryz.prog.info? 29).map (fun i => (i.zero, i.size, i.bytes)) = some (some (.agg #[.int .u8 0, .int .i64 0, .string ⟨#[]⟩, .int .i64 0]), 4, 40) := by kernel_rfl
theorem out_u (W : World) (a : Option Addr) (n : Nat) (ys : List Ot) (h : Outs W a n ys) (g p : Nat) (ha : a = some ⟨g, p, none⟩) : ∀ j u, (flat ys)[j]? = some u → W.cell? ((⟨g, p, none⟩ : Addr).add j) = some u := by
  intro j u hu
  have hj : j < ys.length * 4 := by rw [← flat_len]; exact (List.getElem?_eq_some_iff.1 hu).1
  have hk : j / 4 < n := by rw [h.len]; omega
  obtain ⟨g', p', o, h1, h2, h3, c0, c1, c2, c3⟩ := h.at_ (j / 4) hk
  rw [ha] at h1
  injection h1 with h1
  injection h1 with e1 e2
  subst e1; subst e2
  have hf := flat_at ys (j / 4) o h2 (j % 4) (Nat.mod_lt _ (by decide))
  rw [show j / 4 * 4 + j % 4 = j by omega, hu] at hf
  rw [Addr.add_lit]
  have hm := Nat.mod_lt j (show 0 < 4 by decide)
  have hj' : p + j = p + j / 4 * 4 + j % 4 := by omega
  rw [hj']
  have hc : j % 4 = 0 ∨ j % 4 = 1 ∨ j % 4 = 2 ∨ j % 4 = 3 := by omega
  rcases hc with e | e | e | e <;> rw [e] at hf ⊢ <;> (rw [hf]; first | exact c0 | exact c1 | exact c2 | exact c3)
/-- What an append of outs to a row of one's own leaves. -/
theorem app_outs {w W : World} {v : Value} {xs ys : List Ot} {a : Option Addr} {n c : Nat} (O : W.ownsRow w.heap.size 29 4 v xs.length (flat xs)) (hB : Below w.heap.size w W) (h : Outs W a n ys) (hac : a = none → c = 0) (hlen : xs.length + n ≤ 3000000000000) :
    ∃ a2 m cp w2, (Builtin.append_ #[23, 23] 23 #[v, .slice a n c]).run Tryz.prog W = .ok (.slice a2 m cp) w2 ∧ Hid (m = (xs ++ ys).length) ∧
      Hid (w2.ownsRow w.heap.size 29 4 (.slice a2 m cp) m (flat (xs ++ ys))) ∧ Hid (Below w.heap.size w w2) := by
  obtain ⟨i, hi, hz, hs, hby⟩ := info_parts infoOut
  have hn := h.len
  cases a with
  | none =>
    have h0 : n = 0 := by
      rcases Nat.eq_zero_or_pos n with e | e
      · exact e
      · obtain ⟨g, p, o, h1, _⟩ := h.at_ 0 e
        cases h1
    subst h0
    have hy : ys = [] := List.eq_nil_of_length_eq_zero hn.symm
    subst hy
    obtain rfl := hac rfl
    have hr := run_append_owned_none (P := Tryz.prog) (w := W) w.heap.size 23 23 29 i 4 Tryz.underlying23 hi v _ _ O
    obtain ⟨a2, cp, rfl⟩ := own_slice O
    rw [List.append_nil]
    exact ⟨a2, _, cp, W, hr, rfl, O, hB⟩
  | some ad =>
    have had : n = 0 ∨ ∃ g p, ad = ⟨g, p, none⟩ := by
      rcases Nat.eq_zero_or_pos n with e | e
      · exact .inl e
      · obtain ⟨g, p, o, h1, _⟩ := h.at_ 0 e
        exact .inr ⟨g, p, Option.some.inj h1⟩
    have hcells : ∀ j u, (flat ys)[j]? = some u → W.cell? (ad.add j) = some u := by
      rcases had with e | ⟨g, p, rfl⟩
      · subst e
        have hy : ys = [] := List.eq_nil_of_length_eq_zero hn.symm
        subst hy
        intro j u hu
        simp [flat] at hu
      · exact out_u W _ n ys h g p rfl
    obtain ⟨v2, w2, hr, O2, hg, -, -⟩ := run_append_own_at (P := Tryz.prog) (w := W) w.heap.size 23 23 29 i _ 4 40 Tryz.underlying23 hi hz hs hby (by rfl) (by omega) v _ _ O ad n c (flat ys) (by rw [flat_len, hn]) hcells
      (by
        intro u hu
        obtain ⟨o, -, ho⟩ := List.mem_flatMap.1 hu
        simp only [oc, List.mem_cons, List.mem_nil_iff, or_false] at ho
        rcases ho with rfl | rfl | rfl | rfl <;> rfl) (by unfold maxLen; omega) (by omega) hB.size
    have e2 : xs.length + n = (xs ++ ys).length := by rw [List.length_append, hn]
    rw [← flat_app, e2] at O2
    obtain ⟨a2, cp, rfl⟩ := own_slice O2
    have hrow : ∀ k, v.ownBlock = some k → w.heap.size ≤ k := fun k hk => (O.lt k hk).1
    exact ⟨a2, _, cp, w2, hr, rfl, O2, ⟨hg.os.trans hB.os, hg.tape.trans hB.tape, hg.output.trans hB.output, Nat.le_trans hB.size hg.size, fun k hk => (hg.block k (Nat.lt_of_lt_of_le hk hB.size) (fun e => by have := hrow k e.symm; omega)).trans (hB.block k hk)⟩⟩
/-- A row of one's own is a slice of outs. -/
theorem own_outs {w : World} {base : Nat} {e : TypeId} {a : Option Addr} {m c : Nat} {l : List Ot} (h : w.ownsRow base e 4 (.slice a m c) m (flat l)) (hm : m = l.length) : Outs w a m l := by
  have h0 := h
  rcases h.2 with ⟨e1, hn⟩ | ⟨g, cap, cur, e1, -, hg, hnc, hcm, -, -⟩
  · injection e1 with e1 e2 e3
    subst e1
    exact ⟨hm, fun k hk => absurd hk (by omega)⟩
  · injection e1 with e1 e2 e3
    subst e1
    refine ⟨hm, fun k hk => ?_⟩
    have hkl : k < l.length := by omega
    have hc := h0.cells (g := g) rfl
    have ho : l[k]? = some l[k] := List.getElem?_eq_getElem hkl
    have hf := flat_at l k l[k] ho
    refine ⟨g, 0, l[k], rfl, ho, (Array.getElem?_eq_some_iff.1 hg).1, ?_, ?_, ?_, ?_⟩
    · have := hc (k * 4 + 0) _ ((hf 0 (by decide)).trans rfl)
      rw [Addr.add_lit] at this
      simpa using this
    · have := hc (k * 4 + 1) _ ((hf 1 (by decide)).trans rfl)
      rw [Addr.add_lit] at this
      rw [Nat.add_assoc]; exact this
    · have := hc (k * 4 + 2) _ ((hf 2 (by decide)).trans rfl)
      rw [Addr.add_lit] at this
      rw [Nat.add_assoc]; exact this
    · have := hc (k * 4 + 3) _ ((hf 3 (by decide)).trans rfl)
      rw [Addr.add_lit] at this
      rw [Nat.add_assoc]; exact this
end Go.Proofs.YtdipalinddfekaaGreatDoor.KD
namespace Go.Proofs.YtdipalinddfekaaGreatDoor.KD
open Go.ChangeShapes Go.WideShapes Go.ChangeAt Go.RowKit Go.Proofs.YtdipalinddfekaaGreatDoor.V Go.Proofs.YtdipalinddfekaaGreatDoor.K
theorem bulk_one {H : Type} (d : DataW H) : 1 ≤ Rows.uptoBulk d := by
  unfold Rows.uptoBulk
  split <;> omega
theorem bulk_all {H : Type} (l : List (DataW H)) : l.length ≤ Rows.uptoBulkAll l := by
  induction l with
  | nil => simp
  | cons d l ih =>
    have := bulk_one d
    rw [Rows.uptoBulkAll, List.length_cons]
    omega
set_option maxRecDepth 20000
theorem cellsOut : Tryz.prog.cellsOf 29 = 4 := by kernel_rfl
theorem cellsVal : Tryz.prog.cellsOf 26 = 3 := by kernel_rfl
theorem cellsErr : Tryz.prog.cellsOf 27 = 1 := by kernel_rfl
theorem cellsKn : Tryz.prog.cellsOf 24 = 1 := by kernel_rfl
theorem cellsI64 : Tryz.prog.cellsOf 2 = 1 := by kernel_rfl
theorem cellsStr : Tryz.prog.cellsOf 9 = 1 := by kernel_rfl
instance : Inhabited Ot := ⟨nul⟩
theorem two_of {α : Type} : ∀ {l : List α}, l.length = 2 → ∃ a b, l = [a, b]
  | [a, b], _ => ⟨a, b, rfl⟩
theorem open_outs {H : Type} {enc : TypeId × Value → H} {W : World} {r : Reach} {b0 base : Nat} {sp : Nat → Bool} {held : Bool} {v : Value} {d : DataW H} {p : List MemPlace}
    (hv : Value.okWide Tryz.prog W r b0 23 v) (h : DataW.Trod enc Tryz.prog W base sp held 23 v d p) :
    ∃ (pa : Option Addr) (n ca : Nat) (l : List Ot), v = .slice pa n ca ∧ Outs W pa n l ∧ (pa = none → ca = 0) ∧ n ≤ ca ∧ n ≤ Rows.uptoBulk d := by
  obtain ⟨pa, l, ca, rfl⟩ := okWide_slice Tryz.underlying23 hv
  obtain ⟨fuel, hf⟩ := h
  rcases Go.Deep.open_slice Tryz.underlying23 hf with ⟨h0, _⟩ | ⟨a, len, cap, m, n, D, Pl, hcs, _, hl, hm, hmm, hx0, hx⟩
  · have e : Value.slice pa l ca = .slice none 0 0 := by simpa [Value.cells] using h0
    obtain ⟨rfl, rfl, rfl⟩ : pa = none ∧ l = 0 ∧ ca = 0 := by simpa using e
    exact ⟨none, 0, 0, [], rfl, ⟨rfl, fun k hk => absurd hk (Nat.not_lt_zero _)⟩, fun _ => rfl, by omega, by omega⟩
  · have e : Value.slice pa l ca = .slice (some a) len cap := by simpa [Value.cells] using hcs
    obtain ⟨rfl, rfl, rfl⟩ : pa = some a ∧ l = len ∧ ca = cap := by simpa using e
    have hlm : l ≤ m := by rw [hmm]; split <;> omega
    have each : ∀ i, i < l → ∃ q : Ot, W.cell? (a.add (i * 4)) = some (.int .u8 q.k) ∧ W.cell? (a.add (i * 4 + 1)) = some (.int .i64 q.n) ∧ W.cell? (a.add (i * 4 + 2)) = some (.string q.s) ∧ W.cell? (a.add (i * 4 + 3)) = some (.int .i64 q.e) := by
      intro i hi
      obtain ⟨cs', h1, h2⟩ := hx i (by omega)
      rw [cellsOut] at h1
      obtain ⟨_, hlen, hcell⟩ := World.cells?_some h1
      obtain ⟨xs, n', -, hxs, -, hlen2, hg⟩ := DataW.trod_struct Tryz.underlying29 h2
      obtain ⟨y0, y1, rfl⟩ := two_of (show xs.length = 2 from hlen2)
      match cs', hlen with
      | [v0, v1, v2, v3], _ =>
        have g0 : DataW.trod enc Tryz.prog W base sp held n' 26 (([v0, v1, v2, v3].drop 0).take (Tryz.prog.cellsOf 26)) = some y0 := hg 0 _ rfl
        have g1 : DataW.trod enc Tryz.prog W base sp held n' 27 (([v0, v1, v2, v3].drop 3).take (Tryz.prog.cellsOf 27)) = some y1 := hg 1 _ rfl
        rw [cellsVal] at g0
        rw [cellsErr] at g1
        obtain ⟨z0, z1, z2, k, hxy, _, u0, u1, u2⟩ := Go.Deep.trod_struct3 Tryz.underlying26 g0
        simp only [cellsKn, cellsI64, cellsStr, List.drop, List.take] at u0 u1 u2
        obtain ⟨q0, e0, _, w0⟩ := DataW.trod_int Tryz.underlying24 u0
        obtain ⟨q1, e1, _, _⟩ := DataW.trod_int Tryz.underlying2 u1
        obtain ⟨q2, e2, _, w2⟩ := DataW.trod_string Tryz.underlying9 u2
        simp only [List.drop, List.take] at g1
        obtain ⟨q3, e3, _, _⟩ := DataW.trod_int Tryz.underlying27 g1
        simp only [List.cons.injEq, and_true] at e0 e1 e2 e3
        subst e0; subst e1; subst e2; subst e3
        have c0 := hcell 0 (by omega)
        have c1 := hcell 1 (by omega)
        have c2 := hcell 2 (by omega)
        have c3 := hcell 3 (by omega)
        rw [Go.Deep.add_add] at c0 c1 c2 c3
        exact ⟨⟨q0, q1, q2, q3⟩, by simpa using c0, by simpa using c1, by simpa using c2, by simpa using c3⟩
    obtain ⟨q, hq⟩ := Go.Deep.choose_lt each
    obtain ⟨B, O, spot⟩ := a
    have hs : ∀ i, i < l → spot = none := fun i hi => by
      have h := World.cell?_spot (hq 0 (by omega)).1
      simpa [Addr.add] using h
    refine ⟨_, l, ca, (List.range l).map q, rfl, ⟨by simp, fun i hi => ?_⟩, fun h => (by cases h), hl, ?_⟩
    · have e := hs i hi
      subst e
      obtain ⟨c0, c1, c2, c3⟩ := hq i hi
      rw [Addr.add_lit] at c0 c1 c2 c3
      refine ⟨B, O, q i, rfl, by simp [hi], World.block_lt_of_cell? _ _ c0, c0, ?_, ?_, ?_⟩
      · rw [Nat.add_assoc]; exact c1
      · rw [Nat.add_assoc]; exact c2
      · rw [Nat.add_assoc]; exact c3
    · simp only [Prod.mk.injEq] at hx0
      rw [hx0.1, Rows.uptoBulk]
      have := bulk_all ((List.range l).map D)
      simp only [List.length_map, List.length_range] at this
      omega
theorem allO_drop {l : List Ot} {p : Ot → Bool} {k : Nat} {o : Ot} (h : l[k]? = some o) : (l.drop k).all p = (p o && (l.drop (k + 1)).all p) := by
  rw [List.drop_eq_getElem_cons (List.getElem?_eq_some_iff.1 h).1, List.all_cons, (List.getElem?_eq_some_iff.1 h).2]
end Go.Proofs.YtdipalinddfekaaGreatDoor.KD
