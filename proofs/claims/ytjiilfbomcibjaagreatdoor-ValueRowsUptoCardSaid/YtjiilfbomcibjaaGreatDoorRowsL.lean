/- The law ValueRows returns true for any two rows and any value, within the narrower row. -/
import Derived.Test.YtjiilfbomcibjaaGreatDoorRowsC
import Derived.Test.YtjiilfbomcibjaaGreatDoorCards
import Derived.JoinedCond
namespace Go.Proofs.YtjiilfbomcibjaaGreatDoor.valueRows
open Go.ChangeShapes Go.WideShapes Go.ChangeAt Go.RowKit Go.Proofs.YtjiilfbomcibjaaGreatDoor.V Go.Proofs.YtjiilfbomcibjaaGreatDoor.L Go.Joins
theorem laidOut : laidOutB Tryz.prog = true := by kernel_rfl
theorem own : ownKnob Tryz.prog.godebug = none := by kernel_rfl
theorem row_front (la lb : Nat) (k n : Int) (s : ByteArray) (KA NA KB NB : Nat → Int) (SA SB : Nat → ByteArray) :
    (cmpR (1 + la) (1 + lb) fun i => cmpV (front k KA i) (front n NA i) (front s SA i) (front k KB i) (front n NB i) (front s SB i)) = cmpR la lb fun i => cmpV (KA i) (NA i) (SA i) (KB i) (NB i) (SB i) := by
  rw [Nat.add_comm 1 la, Nat.add_comm 1 lb]
  exact cmpR_front _ _ _ _ (by simp only [front, if_true]; exact valueOrders.cmpV_refl _ _ _) (fun i => by simp [front])
theorem wpList_app {P : Program} {w w' : World} {ops : Array Oper} {rest : List Oper} {o : Oper} {a : Act} {Q : Exit → Act → World → Prop} {s x : Operand} {t tx : TypeId} {v xv v' : Value}
    (ho : o.op = .call { callee := .builtin .append, args := #[s, x], argTypes := #[t, tx] }) (hgd : o.guard = none) (hv : a.eval s = v) (hx : a.eval x = xv) (hrun : (Builtin.append_ #[t, tx] o.type #[v, xv]).run P w = .ok v' w')
    (hK : wpList P ops Q rest (a.put o.dst v') w') : wpList P ops Q (o :: rest) a w := by
  refine wpList_plain hgd fun K hK' => ?_
  unfold Oper.wp
  simp [execOp, ho, resolve, invoke, builtin, hv, hx, hrun, Result.andThen]
  exact hK' _ _ hK
set_option maxRecDepth 20000 in
set_option maxHeartbeats 800000 in
theorem walk (pa pb : Option Addr) (la ca lb cb BA OA BB OB : Nat) (KA NA KB NB : Nat → Int) (SA SB : Nat → ByteArray) (k n : Int) (s : ByteArray) (hk : 0 ≤ k ∧ k ≤ 255) (hs : s.size ≤ maxLen) (ha : la ≤ 1048576) (hb : lb ≤ 1048576) (w : World) (E : Env w)
    (RA : RowAt w pa la BA OA KA NA SA) (RB : RowAt w pb lb BB OB KB NB SB) :
    Calls Tryz.prog 5 #[.slice pa la ca, .slice pb lb cb, val k n s] w fun e w' => e = .returned (.bool true) ∧ Below w.heap.size w w' := by
  obtain ⟨x, hx⟩ : ∃ x, (cmpR la lb fun i => cmpV (KA i) (NA i) (SA i) (KB i) (NB i) (SB i)) = x := ⟨_, rfl⟩
  have HX := Lib.hid hx
  have hb0 : Below w.heap.size w (w.alloc (Obj.cells #[Value.int IntKind.u8 k, Value.int IntKind.i64 n, Value.string s] 24)) := (Below.refl _ _).alloc (Nat.le_refl _) _
  have h1 := r_CompareRows pa pb la ca lb cb BA OA BB OB KA NA KB NB SA SB (by omega) (by omega) _ (RA.below hb0) (RB.below hb0)
  rw [hx] at h1
  have H1 := Lib.hid h1
  have HA := Lib.hid RA
  have HB := Lib.hid RB
  have HBL := Lib.hid hb0
  clear h1 RA RB hb0 hx
  go_enter Tryz.func5, Tryz.ntmps5
  go_wp2_with fail
  refine H1.out.mono ?_
  rintro e w1 ⟨rfl, hb1⟩
  clear H1
  have E1 := (E.alloc _).below hb1
  obtain ⟨hc1, hf1⟩ := bcell hb1
  have z1 : w.heap.size < w1.heap.size := Nat.lt_of_lt_of_le (by simp) hb1.size
  have RA1 := (HA.out.below HBL.out).below hb1
  obtain ⟨g, cap, w2, e2, hb2, RC⟩ := app k n s hk hs pa la ca BA OA KA NA SA ha w1 RA1
  have HB2 := Lib.hid hb2
  have HRC := Lib.hid RC
  have E2 := E1.below hb2
  obtain ⟨hc2, hf2⟩ := bcell hb2
  have z2 : w.heap.size < w2.heap.size := Nat.lt_of_lt_of_le z1 hb2.size
  have RB2 := (((HB.out.below HBL.out).below hb1).below hb2)
  obtain ⟨g', cap', w3, e3, hb3, RD⟩ := app k n s hk hs pb lb cb BB OB KB NB SB hb w2 RB2
  have HB3 := Lib.hid hb3
  have HRD := Lib.hid RD
  have E3 := E2.below hb3
  obtain ⟨hc3, hf3⟩ := bcell hb3
  have z3 : w.heap.size < w3.heap.size := Nat.lt_of_lt_of_le z2 hb3.size
  have F2 := Lib.hid e2
  have F3 := Lib.hid e3
  clear RC RD RA1 RB2 e2 e3
  go_wp2_with (first | (refine wpList_app (v := .slice (some ⟨w1.heap.size, 0, none⟩) 1 1) (xv := .slice pa la ca) rfl rfl ?_ ?_ F2.out ?_; rfl; rfl) | (refine wpList_app (v := .slice (some ⟨w2.heap.size, 0, none⟩) 1 1) (xv := .slice pb lb cb) rfl rfl ?_ ?_ F3.out ?_; rfl; rfl))
  refine (c_CompareRows pa pb la ca lb cb BA OA BB OB KA NA KB NB SA SB (by omega) (by omega) _ ((((HA.out.below HBL.out).below hb1).below hb2).below hb3) ((((HB.out.below HBL.out).below hb1).below hb2).below hb3)).mono ?_
  rw [HX.out]
  rintro e w4 ⟨rfl, hb4⟩
  have E4 := E3.below hb4
  go_wp2_with fail
  refine (c_CompareRows _ _ (1 + la) cap (1 + lb) cap' g 0 g' 0 _ _ _ _ _ _ (by omega) (by omega) _ ((HRC.out.below hb3).below hb4) (HRD.out.below hb4)).mono ?_
  rw [row_front, HX.out]
  rintro e w5 ⟨rfl, hb5⟩
  have E5 := E4.below hb5
  go_wp2_with fail
  refine (awake _ E5).mono ?_
  rintro e wz ⟨rfl, hbz⟩
  go_wp2
  go_ret
  exact ⟨rfl, by repeat (first | exact HBL.out | exact Below.refl _ _ | (refine bel_trans ?_ (by assumption)) | apply bel_alloc | apply Below.drew)⟩
/-! ### The arguments -/
theorem bulk_one {H : Type} (d : DataW H) : 1 ≤ Rows.uptoBulk d := by
  unfold Rows.uptoBulk
  split <;> omega
theorem bulk_all {H : Type} (l : List (DataW H)) : l.length ≤ Rows.uptoBulkAll l := by
  induction l with
  | nil => simp
  | cons d l ih =>
    have := bulk_one d
    rw [Rows.uptoBulkAll, List.length_cons]
    omega
set_option maxRecDepth 20000
theorem kindCells : Tryz.prog.cellsOf 22 = 1 := by kernel_rfl
theorem intCells : Tryz.prog.cellsOf 2 = 1 := by kernel_rfl
theorem strCells : Tryz.prog.cellsOf 9 = 1 := by kernel_rfl
set_option maxRecDepth 20000 in
theorem open_row {H : Type} {enc : TypeId × Value → H} {W : World} {r : Reach} {b0 base : Nat} {sp : Nat → Bool} {held : Bool} {v : Value} {d : DataW H} {p : List MemPlace}
    (hv : Value.okWide Tryz.prog W r b0 30 v) (h : DataW.Trod enc Tryz.prog W base sp held 30 v d p) :
    ∃ (pa : Option Addr) (l ca B O : Nat) (K N : Nat → Int) (S : Nat → ByteArray), v = .slice pa l ca ∧ RowAt W pa l B O K N S ∧ l ≤ Rows.uptoBulk d := by
  obtain ⟨pa, l, ca, rfl⟩ := okWide_slice Tryz.underlying30 hv
  obtain ⟨fuel, hf⟩ := h
  rcases Go.Deep.open_slice Tryz.underlying30 hf with ⟨h0, _⟩ | ⟨a, len, cap, m, n, D, Pl, hcs, _, hl, hm, hmm, hx0, hx⟩
  · have e : Value.slice pa l ca = .slice none 0 0 := by simpa [Value.cells] using h0
    obtain ⟨rfl, rfl, rfl⟩ : pa = none ∧ l = 0 ∧ ca = 0 := by simpa using e
    exact ⟨none, 0, 0, 0, 0, fun _ => 0, fun _ => 0, fun _ => ⟨#[]⟩, rfl, ⟨fun h => by omega, fun i h => by omega, fun i h => by omega, fun i h => by omega, fun i h => by omega, fun i h => by omega⟩, by omega⟩
  · have e : Value.slice pa l ca = .slice (some a) len cap := by simpa [Value.cells] using hcs
    obtain ⟨rfl, rfl, rfl⟩ : pa = some a ∧ l = len ∧ ca = cap := by simpa using e
    have hlm : l ≤ m := by rw [hmm]; split <;> omega
    have each : ∀ i, i < l → ∃ q : Int × Int × ByteArray, W.cell? (a.add (i * 3)) = some (.int .u8 q.1) ∧ W.cell? (a.add (i * 3 + 1)) = some (.int .i64 q.2.1) ∧ W.cell? (a.add (i * 3 + 2)) = some (.string q.2.2) ∧ (Lit.int .u8 q.1).wf = true ∧ q.2.2.size ≤ maxLen := by
      intro i hi
      obtain ⟨cs', h1, h2⟩ := hx i (by omega)
      rw [cells_val] at h1
      obtain ⟨_, hlen, hcell⟩ := World.cells?_some h1
      obtain ⟨y0, y1, y2, k, hxy, _, u0, u1, u2⟩ := Go.Deep.trod_struct3 Tryz.underlying24 h2
      match cs', hlen with
      | [v0, v1, v2], _ =>
        simp only [kindCells, intCells, strCells, List.drop, List.take] at u0 u1 u2
        obtain ⟨q0, e0, _, w0⟩ := DataW.trod_int Tryz.underlying22 u0
        obtain ⟨q1, e1, _, _⟩ := DataW.trod_int Tryz.underlying2 u1
        obtain ⟨q2, e2, _, w2⟩ := DataW.trod_string Tryz.underlying9 u2
        simp only [List.cons.injEq, and_true] at e0 e1 e2
        subst e0; subst e1; subst e2
        have c0 := hcell 0 (by omega)
        have c1 := hcell 1 (by omega)
        have c2 := hcell 2 (by omega)
        rw [Go.Deep.add_add] at c0 c1 c2
        exact ⟨(q0, q1, q2), by simpa using c0, by simpa using c1, by simpa using c2, w0, w2⟩
    obtain ⟨q, hq⟩ : ∃ q : Nat → Int × Int × ByteArray, ∀ i, i < l → W.cell? (a.add (i * 3)) = some (.int .u8 (q i).1) ∧ W.cell? (a.add (i * 3 + 1)) = some (.int .i64 (q i).2.1) ∧ W.cell? (a.add (i * 3 + 2)) = some (.string (q i).2.2) ∧ (Lit.int .u8 (q i).1).wf = true ∧ (q i).2.2.size ≤ maxLen := by
      classical
      exact ⟨fun i => if hi : i < l then (each i hi).choose else (0, 0, ⟨#[]⟩), fun i hi => by simp only [dif_pos hi]; exact (each i hi).choose_spec⟩
    obtain ⟨B, O, spot⟩ := a
    have hs : ∀ i, i < l → spot = none := fun i hi => by
      have h := World.cell?_spot (hq 0 (by omega)).1
      simpa [Addr.add] using h
    refine ⟨_, l, ca, B, O, fun i => (q i).1, fun i => (q i).2.1, fun i => (q i).2.2, rfl, ⟨fun h => by rw [hs 0 h], fun i hi => ?_, fun i hi => ?_, fun i hi => ?_, fun i hi => bounds_u8 (hq i hi).2.2.2.1, fun i hi => (hq i hi).2.2.2.2⟩, ?_⟩
    · have e := hs i hi
      subst e
      have h := (hq i hi).1
      rwa [Addr.add_lit] at h
    · have e := hs i hi
      subst e
      have h := (hq i hi).2.1
      rwa [Addr.add_lit] at h
    · have e := hs i hi
      subst e
      have h := (hq i hi).2.2.1
      rwa [Addr.add_lit] at h
    · simp only [Prod.mk.injEq] at hx0
      rw [hx0.1, Rows.uptoBulk]
      have := bulk_all ((List.range l).map D)
      simp only [List.length_map, List.length_range] at this
      omega
/-! ### The narrower row -/
section
variable {H : Type} {enc : TypeId × Value → H}
/-- The wrap of a row that lists variables and bears a condition, the world's shape kept. -/
theorem handed_cond {a : Assume} {C : Checked} {os : Os} {f : FuncId} {fn : Func} {s : OpenSpec} {k : (H : Type) → List (DataW H) → Bool} (hk : s.cond = some k) {F : Stop.Interp} {conds : List PathCond} {apart fresh handsOn again : Bool} {X : World → Prop}
    (hX : ∀ (w w' : World), w.heap = w'.heap → X w → X w')
    (own : ownKnob C.prog.godebug = none) (started : os.Started) (noInit : C.prog.inits.idxOf? f = none) (hfn : C.prog.funcs[f]? = some fn)
    (witness : ∃ (w : World) (tape : Tape) (i : Input), w.os = os ∧ (w.forCall tape i).Shaped C.prog ∧ i.vars = [] ∧ Input.okWide C.prog (w.forCall tape i) .any w.heap.size f i ∧
      ((s.pre enc C.prog fn conds apart (w.forCall tape i).memory i.args ∧ X (w.forCall tape i).memory) ∧ sizedMet enc C.prog fn s apart (w.forCall tape i).memory i.args) ∧ a.holds C.prog (lone (Frame.enter C.prog f i.args .normal) [] (w.forCall tape i)))
    (contract : ∀ (W : World) (base : Nat) (args : Array Value) (ds gs : List (DataW H)) (before : List MemPlace),
      (∀ (j : Nat) t v, fn.params[j]? = some t → args[j]? = some v → Value.okWide C.prog W .any base t v) →
      DataW.Whole enc C.prog fn.params.toList s.vars apart W args.toList ds gs before →
      k H (ds ++ gs) = true → X W → W.ShapedOpen C.prog →
      Calls C.prog f args W fun e W' => ∃ v, e = .returned v ∧ (s.at F).post enc C.prog fn apart fresh handsOn again W args v W') :
    ReturnsInHanded a C os f .any (fun w args => (s.pre enc C.prog fn conds apart w args ∧ X w) ∧ sizedMet enc C.prog fn s apart w args) ((s.at F).post enc C.prog fn apart fresh handsOn again) := by
  refine returnsInHanded_of_calls own started noInit witness ?_
  intro w tape i _ hsh _ hok hpre _
  obtain ⟨_, _, _, fn', hfn', _, _, _, _, hval⟩ := hok
  have e : fn' = fn := Option.some.inj (hfn'.symm.trans hfn)
  subst e
  obtain ⟨⟨hp, hx⟩, _⟩ := hpre
  obtain ⟨ds, gs, before, hw, _, hkk⟩ := (OpenSpec.pre_some hk conds apart _ _).1 hp
  have hw' := DataW.Whole.of_heap (w' := w.forCall tape i) (by rfl) hw
  refine (contract (w.forCall tape i) w.heap.size i.args ds gs before hval hw' hkk (hX _ _ (by rfl) hx) hsh).mono fun e W' ⟨v, he, hq⟩ => ?_
  subst he
  exact ChangeSpec.post_blind hq
end
set_option maxRecDepth 100000 in
theorem wit (os : Os) (H : Type) (enc : TypeId × Value → H) : ∃ (w : World) (tape : Tape) (i : Input), w.os = os ∧ (w.forCall tape i).Shaped Tryz.checked.prog ∧ i.vars = [] ∧ Input.okWide Tryz.checked.prog (w.forCall tape i) .any w.heap.size 5 i ∧
    (((Rows.OpenSpec.upto Rows.valueRowsSpec).pre enc Tryz.checked.prog Tryz.f5 Rows.valueRowsUptoRow.domain false (w.forCall tape i).memory i.args ∧ laidMetH Tryz.prog laidList (w.forCall tape i).memory) ∧ sizedMet enc Tryz.checked.prog Tryz.f5 (Rows.OpenSpec.upto Rows.valueRowsSpec) false (w.forCall tape i).memory i.args) ∧
      ({} : Assume).holds Tryz.checked.prog (lone (Frame.enter Tryz.checked.prog 5 i.args .normal) [] (w.forCall tape i)) :=
  ⟨World.laidAll Tryz.prog os laidList, fun _ _ => 0, ⟨#[], #[.slice none 0 0, .slice none 0 0, .agg #[.int .u8 0, .int .i64 0, .string ⟨#[]⟩]], []⟩, World.laidAll_os _ _ _, World.shaped_of_ZipB (by kernel_rfl) (by kernel_rfl), rfl,
    (Input.okWide_of_okWideB (by kernel_rfl)).2,
    ⟨⟨(OpenSpec.pre_some rfl _ _ _ _).2 ⟨[.nil, .nil, .agg [.lit (.int .u8 0), .lit (.int .i64 0), .lit (.string [])]], [], [], DataW.Whole_of_whole (x := ([.nil, .nil, .agg [.lit (.int .u8 0), .lit (.int .i64 0), .lit (.string [])]], [], [])) (fuel := 8) (by kernel_rfl), by kernel_rfl, by kernel_rfl⟩,
      by rw [MakeChecks.laidMetH_plain _ _ _ plainList]; exact laidMet_laidAll _ (by kernel_rfl) (by kernel_rfl)⟩, sizedMet_of_sizedB (fuel := 8) (by kernel_rfl)⟩, by
    simp only [Assume.holds]
    exact ⟨by simp, by simp, fun _ => Modest.zero, by simp, by simp⟩⟩
set_option maxRecDepth 100000 in
theorem lifted (os : Os) (started : os.Started) (H : Type) (enc : TypeId × Value → H) (F : Stop.Interp) :
    ReturnsInHanded {} Tryz.checked os 5 .any (fun w args => ((Rows.OpenSpec.upto Rows.valueRowsSpec).pre enc Tryz.prog Tryz.f5 Rows.valueRowsUptoRow.domain false w args ∧ laidMetH Tryz.prog laidList w) ∧ sizedMet enc Tryz.prog Tryz.f5 (Rows.OpenSpec.upto Rows.valueRowsSpec) false w args)
      (((Rows.OpenSpec.upto Rows.valueRowsSpec).at F).post enc Tryz.prog Tryz.f5 false true false false) := by
  refine handed_cond (C := Tryz.checked) (s := Rows.OpenSpec.upto Rows.valueRowsSpec) (k := Rows.uptoSmall) (X := laidMetH Tryz.prog laidList) rfl (fun _ _ hh h => h.of_heap hh) own started (by kernel_rfl) Tryz.func5 (wit os H enc) ?_
  intro W base args ds gs before hval0 hW hkk hL hS
  have E : Env W := env_of hL hS
  have hval : ∀ (j : Nat) t v, Tryz.f5.params[j]? = some t → args[j]? = some v → Value.okWide Tryz.prog W .any base t v := hval0
  have hW' : DataW.Whole enc Tryz.prog Tryz.f5.params.toList Rows.valueRowsSpec.vars false W args.toList ds gs before := hW
  obtain ⟨p, q, hA0, hV0, rfl, hfz, hnd⟩ := hW
  have hA : DataW.TrodAll enc Tryz.prog W 0 (fun _ => true) true Tryz.f5.params.toList args.toList ds p := hA0
  have hV : DataW.TrodVars enc Tryz.prog W (fun _ => true) [] gs q := hV0
  rw [Tryz.params5] at hA hval
  obtain ⟨v0, vs0, d0, ds0, p0, q0, hargs, rfl, rfl, h0, r0⟩ := trodAll_cons hA
  obtain ⟨v1, vs1, d1, ds1, p1, q1, rfl, rfl, rfl, h1, r1⟩ := trodAll_cons r0
  obtain ⟨v2, vs2, d2, ds2, p2, q2, rfl, rfl, rfl, h2, r2⟩ := trodAll_cons r1
  obtain ⟨rfl, rfl, rfl⟩ := trodAll_nil r2
  obtain rfl : args = #[v0, v1, v2] := by cases args; simp_all
  obtain ⟨rfl, rfl⟩ := trodVars_none hV
  obtain ⟨pa, la, ca, BA, OA, KA, NA, SA, rfl, RA, za⟩ := open_row (hval 0 30 v0 rfl rfl) h0
  obtain ⟨pb, lb, cb, BB, OB, KB, NB, SB, rfl, RB, zb⟩ := open_row (hval 1 30 v1 rfl rfl) h1
  obtain ⟨k, n, s, rfl, rfl, wk, _, hs⟩ := open_val (hval 2 24 v2 rfl rfl) h2
  have hz : Rows.uptoBulk d0 ≤ 1048576 ∧ Rows.uptoBulk d1 ≤ 1048576 := by
    have h := of_decide_eq_true hkk
    simp only [List.append_nil, Rows.uptoBulkAll] at h
    omega
  refine (walk pa pb la ca lb cb BA OA BB OB KA NA KB NB SA SB k n s (bounds_u8 wk) hs (by omega) (by omega) W E RA RB).mono fun e W' ⟨he, hb⟩ => ?_
  subst he
  exact ⟨_, rfl, law_post (s := Rows.valueRowsSpec) laidOut (by kernel_rfl) rfl Tryz.underlying4 rfl rfl hW' hb⟩
theorem over : Rows.valueRowsUptoRow.holds Tryz.pinned (Rows.OpenSpec.upto Rows.valueRowsSpec) :=
  OpenClaim.holds_of_cond 5 Tryz.f5 rfl rfl rfl rfl rfl rfl rfl ⟨rfl, rfl, rfl, rfl, rfl⟩ rfl rfl rfl rfl rfl (by kernel_rfl) Tryz.func5 (by kernel_rfl)
    (of_decide_eq_true (by kernel_rfl)) (by unfold Func.isWrapper; first | (rw [if_pos (by decide +kernel)]; kernel_rfl) | (rw [if_neg (by decide +kernel)]; exact ⟨rfl, rfl⟩))
    (fun os started H enc _ F => lifted os started H enc F)
set_option maxRecDepth 100000 in
theorem proved : Rows.ValueRowsUptoCardSaid :=
  Claim7.holds_tied_plain_at .later [] [.data, .data, .data, .data, .sentinel, .sentinel, .pinned] true (true, "dc76aaaa3d15237a26b491520c5f0f51c4edc92f79f60971654b9608da9ea080") true over (fun _ h => by cases h) (by kernel_rfl) (fun _ h => by cases h) valueRowsUpto_row_tie rfl ⟨rfl, rfl⟩ (by kernel_rfl) rfl
    (fun f fn hf hfn => by
      obtain rfl : f = 5 := Option.some.inj ((show Tryz.prog.funcNamed "jointer/jointerlaw01.ValueRows" = some 5 by kernel_rfl).symm.trans hf) |>.symm
      obtain rfl : fn = Tryz.f5 := (Option.some.inj (Tryz.func5.symm.trans hfn)).symm
      exact ⟨by kernel_rfl, fun j t ht => by
        rw [Tryz.params5] at ht
        have hm : t ∈ [30, 30, 24] := by simpa using Array.mem_of_getElem? ht
        have hall : ([30, 30, 24].all fun u => !Tryz.prog.wantsStandIn u) = true := by kernel_rfl
        exact (show Tryz.prog.wantsStandIn t = false by simpa using List.all_eq_true.1 hall t hm)⟩)
    (by kernel_rfl)
end Go.Proofs.YtjiilfbomcibjaaGreatDoor.valueRows
