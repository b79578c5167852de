/- The law CalcLazy returns true for any list of kids and any list behind them, within the narrower row. -/
import Derived.Test.YtdipalinddfekaaDoorGan
import Derived.Test.YtdipalinddfekaaDoorCards
namespace Go.Proofs.YtdipalinddfekaaDoor.calcLazy
open Go.ChangeShapes Go.WideShapes Go.ChangeAt Go.RowKit Go.Proofs.YtdipalinddfekaaDoor.V Go.Proofs.YtdipalinddfekaaDoor.L Go.Proofs.YtdipalinddfekaaDoor.K Go.Proofs.YtdipalinddfekaaDoor.KD Go.Proofs.YtdipalinddfekaaDoor.U Go.Proofs.YtdipalinddfekaaDoor.Z Go.Joins
set_option maxRecDepth 100000 in
theorem wit (os : Os) (H : Type) (enc : TypeId × Value → H) : ∃ (w : World) (tape : Tape) (i : Input), w.os = os ∧ (w.forCall tape i).Shaped Tryd.checked.prog ∧ i.vars = [] ∧ Input.okWide Tryd.checked.prog (w.forCall tape i) .any w.heap.size 3 i ∧
    (((Rows.OpenSpec.upto Rows.calcLazySpec).pre enc Tryd.checked.prog Tryd.f3 Rows.calcLazyUptoRow.domain false (w.forCall tape i).memory i.args ∧ laidMetH Tryd.prog laidList (w.forCall tape i).memory) ∧ sizedMet enc Tryd.checked.prog Tryd.f3 (Rows.OpenSpec.upto Rows.calcLazySpec) false (w.forCall tape i).memory i.args) ∧
      ({} : Assume).holds Tryd.checked.prog (lone (Frame.enter Tryd.checked.prog 3 i.args .normal) [] (w.forCall tape i)) :=
  ⟨World.laidAll Tryd.prog os laidList, fun _ _ => 0, ⟨#[], #[.slice none 0 0, .slice none 0 0], []⟩, World.laidAll_os _ _ _, World.shaped_of_ZipB (by kernel_rfl) (by kernel_rfl), rfl,
    (Input.okWide_of_okWideB (by kernel_rfl)).2,
    ⟨⟨(OpenSpec.pre_some rfl _ _ _ _).2 ⟨[.nil, .nil], [], [], DataW.Whole_of_whole (x := ([.nil, .nil], [], [])) (fuel := 8) (by kernel_rfl), by kernel_rfl, by kernel_rfl⟩,
      by rw [MakeChecks.laidMetH_plain _ _ _ plainList]; exact laidMet_laidAll _ (by kernel_rfl) (by kernel_rfl)⟩, sizedMet_of_sizedB (fuel := 8) (by kernel_rfl)⟩, by
    simp only [Assume.holds]
    exact ⟨by simp, by simp, fun _ => Modest.zero, by simp, by simp⟩⟩
set_option maxRecDepth 100000 in
theorem lifted (os : Os) (started : os.Started) (H : Type) (enc : TypeId × Value → H) (F : Stop.Interp) :
    ReturnsInHanded {} Tryd.checked os 3 .any (fun w args => ((Rows.OpenSpec.upto Rows.calcLazySpec).pre enc Tryd.prog Tryd.f3 Rows.calcLazyUptoRow.domain false w args ∧ laidMetH Tryd.prog laidList w) ∧ sizedMet enc Tryd.prog Tryd.f3 (Rows.OpenSpec.upto Rows.calcLazySpec) false w args)
      (((Rows.OpenSpec.upto Rows.calcLazySpec).at F).post enc Tryd.prog Tryd.f3 false true false false) := by
  refine handed_cond (C := Tryd.checked) (s := Rows.OpenSpec.upto Rows.calcLazySpec) (k := Rows.uptoSmall) (X := laidMetH Tryd.prog laidList) rfl (fun _ _ hh h => h.of_heap hh) own started (by kernel_rfl) Tryd.func3 (wit os H enc) ?_
  intro W base args ds gs before hval0 hW hkk hL hS
  have hval : ∀ (j : Nat) t v, Tryd.f3.params[j]? = some t → args[j]? = some v → Value.okWide Tryd.prog W .any base t v := hval0
  have hW' : DataW.Whole enc Tryd.prog Tryd.f3.params.toList Rows.calcLazySpec.vars false W args.toList ds gs before := hW
  obtain ⟨p, q, hA0, hV0, rfl, hfz, hnd⟩ := hW
  have hA : DataW.TrodAll enc Tryd.prog W 0 (fun _ => true) true Tryd.f3.params.toList args.toList ds p := hA0
  have hV : DataW.TrodVars enc Tryd.prog W (fun _ => true) [] gs q := hV0
  rw [Tryd.params3] at hA hval
  obtain ⟨v0, vs0, d0, ds0, p0, q0, hargs, rfl, rfl, h0, r0⟩ := trodAll_cons hA
  obtain ⟨v1, vs1, d1, ds1, p1, q1, rfl, rfl, rfl, h1, r1⟩ := trodAll_cons r0
  obtain ⟨rfl, rfl, rfl⟩ := trodAll_nil r1
  obtain rfl : args = #[v0, v1] := by cases args; simp_all
  obtain ⟨rfl, rfl⟩ := trodVars_none hV
  obtain ⟨pa, na, ca, la, rfl, RA, ha, hca, za, hma, hfa⟩ := open_outs2 (hval 0 22 v0 rfl rfl) h0
  obtain ⟨pb, nb, cb, lb, rfl, RB, hb, _, zb, _, hfb⟩ := open_outs2 (hval 1 22 v1 rfl rfl) h1
  have hz : Rows.uptoBulk d0 ≤ 1048576 ∧ Rows.uptoBulk d1 ≤ 1048576 := by
    have h := of_decide_eq_true hkk
    simp only [List.append_nil, Rows.uptoBulkAll] at h
    omega
  refine (walk_lazy pa pb na ca nb cb la lb (by omega) (by omega) ha hb hca hma hfa hfb W RA RB).mono fun e W' ⟨he, hb⟩ => ?_
  subst he
  exact ⟨_, rfl, law_post (s := Rows.calcLazySpec) laidOut (by kernel_rfl) rfl Tryd.underlying4 rfl rfl hW' hb⟩
theorem over : Rows.calcLazyUptoRow.holds Tryd.pinned (Rows.OpenSpec.upto Rows.calcLazySpec) :=
  OpenClaim.holds_of_cond 3 Tryd.f3 rfl rfl rfl rfl rfl rfl rfl ⟨rfl, rfl, rfl, rfl, rfl⟩ rfl rfl rfl rfl rfl (by kernel_rfl) Tryd.func3 (by kernel_rfl)
    (of_decide_eq_true (by kernel_rfl)) (by unfold Func.isWrapper; first | (rw [if_pos (by decide +kernel)]; kernel_rfl) | (rw [if_neg (by decide +kernel)]; exact ⟨rfl, rfl⟩))
    (fun os started H enc _ F => lifted os started H enc F)
set_option maxRecDepth 100000 in
theorem proved : Rows.CalcLazyUptoCardSaid :=
  Claim7.holds_tied_plain_at .later [] [.data, .pinned] true (true, "637cea22849c5756518fb43fad52320abedcac36ceccdbc429d3373eec716e5f") false over (fun _ h => by cases h) (by kernel_rfl) (fun _ h => by cases h) calcLazyUpto_row_tie rfl ⟨rfl, rfl⟩ (by kernel_rfl) rfl
    (fun f fn hf hfn => by
      obtain rfl : f = 3 := Option.some.inj ((show Tryd.prog.funcNamed "jointer/jointerlaw05.CalcLazy" = some 3 by kernel_rfl).symm.trans hf) |>.symm
      obtain rfl : fn = Tryd.f3 := (Option.some.inj (Tryd.func3.symm.trans hfn)).symm
      exact ⟨by kernel_rfl, fun j t ht => by
        rw [Tryd.params3] at ht
        have hm : t ∈ [22, 22] := by simpa using Array.mem_of_getElem? ht
        have hall : ([22, 22].all fun u => !Tryd.prog.wantsStandIn u) = true := by kernel_rfl
        exact (show Tryd.prog.wantsStandIn t = false by simpa using List.all_eq_true.1 hall t hm)⟩)
    (by kernel_rfl)
end Go.Proofs.YtdipalinddfekaaDoor.calcLazy
