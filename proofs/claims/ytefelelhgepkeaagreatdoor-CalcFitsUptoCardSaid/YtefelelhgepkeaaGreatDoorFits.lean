/- The law CalcFits returns true for any operator and any list of outs, within the narrower row. -/
import Derived.Test.YtefelelhgepkeaaGreatDoorWa5
import Derived.Test.YtefelelhgepkeaaGreatDoorUpto
import Derived.Test.YtefelelhgepkeaaGreatDoorCards
namespace Go.Proofs.YtefelelhgepkeaaGreatDoor.calcFits
open Go.ChangeShapes Go.WideShapes Go.ChangeAt Go.RowKit Go.Proofs.YtefelelhgepkeaaGreatDoor.V Go.Proofs.YtefelelhgepkeaaGreatDoor.L Go.Proofs.YtefelelhgepkeaaGreatDoor.K Go.Proofs.YtefelelhgepkeaaGreatDoor.KD Go.Proofs.YtefelelhgepkeaaGreatDoor.T Go.Proofs.YtefelelhgepkeaaGreatDoor.U Go.Joins
set_option maxRecDepth 100000 in
theorem wit (os : Os) (H : Type) (enc : TypeId × Value → H) : ∃ (w : World) (tape : Tape) (i : Input), w.os = os ∧ (w.forCall tape i).Shaped Tryz.checked.prog ∧ i.vars = [] ∧ Input.okWide Tryz.checked.prog (w.forCall tape i) .any w.heap.size 6 i ∧
    (((Rows.OpenSpec.upto Rows.calcFitsSpec).pre enc Tryz.checked.prog Tryz.f6 Rows.calcFitsUptoRow.domain false (w.forCall tape i).memory i.args ∧ laidMetH Tryz.prog laidList (w.forCall tape i).memory) ∧ sizedMet enc Tryz.checked.prog Tryz.f6 (Rows.OpenSpec.upto Rows.calcFitsSpec) false (w.forCall tape i).memory i.args) ∧
      ({} : Assume).holds Tryz.checked.prog (lone (Frame.enter Tryz.checked.prog 6 i.args .normal) [] (w.forCall tape i)) :=
  ⟨World.laidAll Tryz.prog os laidList, fun _ _ => 0, ⟨#[], #[.int .u8 0, .slice none 0 0], []⟩, World.laidAll_os _ _ _, World.shaped_of_ZipB (by kernel_rfl) (by kernel_rfl), rfl,
    (Input.okWide_of_okWideB (by kernel_rfl)).2,
    ⟨⟨(OpenSpec.pre_some rfl _ _ _ _).2 ⟨[.lit (.int .u8 0), .nil], [], [], DataW.Whole_of_whole (x := ([.lit (.int .u8 0), .nil], [], [])) (fuel := 8) (by kernel_rfl), by kernel_rfl, by kernel_rfl⟩,
      by rw [MakeChecks.laidMetH_plain _ _ _ plainList]; exact laidMet_laidAll _ (by kernel_rfl) (by kernel_rfl)⟩, sizedMet_of_sizedB (fuel := 8) (by kernel_rfl)⟩, by
    simp only [Assume.holds]
    exact ⟨by simp, by simp, fun _ => Modest.zero, by simp, by simp⟩⟩
set_option maxRecDepth 100000 in
theorem lifted (os : Os) (started : os.Started) (H : Type) (enc : TypeId × Value → H) (F : Stop.Interp) :
    ReturnsInHanded {} Tryz.checked os 6 .any (fun w args => ((Rows.OpenSpec.upto Rows.calcFitsSpec).pre enc Tryz.prog Tryz.f6 Rows.calcFitsUptoRow.domain false w args ∧ laidMetH Tryz.prog laidList w) ∧ sizedMet enc Tryz.prog Tryz.f6 (Rows.OpenSpec.upto Rows.calcFitsSpec) false w args)
      (((Rows.OpenSpec.upto Rows.calcFitsSpec).at F).post enc Tryz.prog Tryz.f6 false true false false) := by
  refine handed_cond (C := Tryz.checked) (s := Rows.OpenSpec.upto Rows.calcFitsSpec) (k := Rows.uptoSmall) (X := laidMetH Tryz.prog laidList) rfl (fun _ _ hh h => h.of_heap hh) own started (by kernel_rfl) Tryz.func6 (wit os H enc) ?_
  intro W base args ds gs before hval0 hW hkk hL hS
  have hval : ∀ (j : Nat) t v, Tryz.f6.params[j]? = some t → args[j]? = some v → Value.okWide Tryz.prog W .any base t v := hval0
  have hW' : DataW.Whole enc Tryz.prog Tryz.f6.params.toList Rows.calcFitsSpec.vars false W args.toList ds gs before := hW
  obtain ⟨p, q, hA0, hV0, rfl, hfz, hnd⟩ := hW
  have hA : DataW.TrodAll enc Tryz.prog W 0 (fun _ => true) true Tryz.f6.params.toList args.toList ds p := hA0
  have hV : DataW.TrodVars enc Tryz.prog W (fun _ => true) [] gs q := hV0
  rw [Tryz.params6] at hA hval
  obtain ⟨v0, vs0, d0, ds0, p0, q0, hargs, rfl, rfl, h0, r0⟩ := trodAll_cons hA
  obtain ⟨v1, vs1, d1, ds1, p1, q1, rfl, rfl, rfl, h1, r1⟩ := trodAll_cons r0
  obtain ⟨rfl, rfl, rfl⟩ := trodAll_nil r1
  obtain rfl : args = #[v0, v1] := by cases args; simp_all
  obtain ⟨rfl, rfl⟩ := trodVars_none hV
  obtain ⟨n0, rfl, rfl, rfl, wn0⟩ := open_int Tryz.underlying22 (hval 0 22 v0 rfl rfl) h0
  obtain ⟨pb, nb, cb, lb, rfl, RB, hb, hnc, zb, hcm, hft⟩ := open_outs2 (hval 1 30 v1 rfl rfl) h1
  have hz : Rows.uptoBulk d1 ≤ 1048576 := by
    have h := of_decide_eq_true hkk
    simp only [List.append_nil, Rows.uptoBulkAll] at h
    omega
  refine (walk_fits n0 pb nb cb lb (by omega) hnc hcm hft W RB).mono fun e W' ⟨he, hb⟩ => ?_
  subst he
  exact ⟨_, rfl, law_post (s := Rows.calcFitsSpec) laidOut (by kernel_rfl) rfl Tryz.underlying4 rfl rfl hW' hb⟩
theorem over : Rows.calcFitsUptoRow.holds Tryz.pinned (Rows.OpenSpec.upto Rows.calcFitsSpec) :=
  OpenClaim.holds_of_cond 6 Tryz.f6 rfl rfl rfl rfl rfl rfl rfl ⟨rfl, rfl, rfl, rfl, rfl⟩ rfl rfl rfl rfl rfl (by kernel_rfl) Tryz.func6 (by kernel_rfl)
    (of_decide_eq_true (by kernel_rfl)) (by unfold Func.isWrapper; first | (rw [if_pos (by decide +kernel)]; kernel_rfl) | (rw [if_neg (by decide +kernel)]; exact ⟨rfl, rfl⟩))
    (fun os started H enc _ F => lifted os started H enc F)
set_option maxRecDepth 100000 in
theorem proved : Rows.CalcFitsUptoCardSaid :=
  Claim7.holds_tied_plain_at .later [] [.data, .pinned] true (true, "ad326e4d330a942a4bfe2eccf250f880ef62ba380095227a9587585b4a73caef") false over (fun _ h => by cases h) (by kernel_rfl) (fun _ h => by cases h) calcFitsUpto_row_tie rfl ⟨rfl, rfl⟩ (by kernel_rfl) rfl
    (fun f fn hf hfn => by
      obtain rfl : f = 6 := Option.some.inj ((show Tryz.prog.funcNamed "jointer/jointerlaw05.CalcFits" = some 6 by kernel_rfl).symm.trans hf) |>.symm
      obtain rfl : fn = Tryz.f6 := (Option.some.inj (Tryz.func6.symm.trans hfn)).symm
      exact ⟨by kernel_rfl, fun j t ht => by
        rw [Tryz.params6] at ht
        have hm : t ∈ [22, 30] := by simpa using Array.mem_of_getElem? ht
        have hall : ([22, 30].all fun u => !Tryz.prog.wantsStandIn u) = true := by kernel_rfl
        exact (show Tryz.prog.wantsStandIn t = false by simpa using List.all_eq_true.1 hall t hm)⟩)
    (by kernel_rfl)
end Go.Proofs.YtefelelhgepkeaaGreatDoor.calcFits
