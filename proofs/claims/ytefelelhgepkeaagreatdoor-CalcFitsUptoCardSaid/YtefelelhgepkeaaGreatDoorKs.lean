/- The kinds of outs as the program lists them, and OR. -/
import Derived.Test.YtefelelhgepkeaaGreatDoorKl
import Derived.Test.YtefelelhgepkeaaGreatDoorKj
import Derived.Deep.OwnRows
namespace Go.Proofs.YtefelelhgepkeaaGreatDoor.K
open Go.ChangeShapes Go.WideShapes Go.ChangeAt Go.RowKit Go.Proofs.YtefelelhgepkeaaGreatDoor.V
theorem infoKind2 : (Tryz.prog.info? 24).map (fun i => (i.zero, i.size, i.bytes)) = some (some (.int .u8 0), 1, 1) := by kernel_rfl
theorem infoOut : (Tryz.prog.info? 34).map (fun i => (i.zero, i.size, i.bytes)) = some (some (.agg #[.int .u8 0, .int .i64 0, .string ⟨#[]⟩, .int .i64 0]), 4, 40) := by kernel_rfl
def kfill (l : List Ot) (k : Nat) : Nat → Value := fun i => .int .u8 (if i < k then (l.getD i nul).k else 0)
set_option maxRecDepth 100000 in
set_option maxHeartbeats 2000000 in
theorem c_kindsOf (a : Option Addr) (n c : Nat) (l : List Ot) (hsz : n ≤ 140737488351232) (w : World) (h : Outs w a n l) :
    Calls Tryz.prog 48 #[.slice a n c] w fun e w' => (∃ a2, e = .returned (.slice a2 n n) ∧ One kI w' a2 n (l.map (·.k))) ∧ Below w.heap.size w w' := by
  have HL := Lib.hid h
  have hnl := Lib.hid h.len
  clear h
  have hmk := run_make_row' (P := Tryz.prog) 23 24 (.int .u8 0) 1 Tryz.underlying23 infoKind2 rfl .i64 .i64 n (by omega) (by omega)
  go_enter Tryz.func48, Tryz.ntmps48
  go_wp2
  go_loopw [11] (fun s11 wr => ∃ (k : Nat), k ≤ n ∧ s11 = .int .i64 k ∧ Hid (wr.rowIs w.heap.size 24 n (kfill l k)) ∧ Hid (Below w.heap.size w wr)) (fun s11 _ => n - (intOf s11).toNat)
  case atStart =>
    refine ⟨0, by omega, rfl, ?_, (Below.refl _ _).alloc (Nat.le_refl _) _⟩
    exact (World.rowIs_made w (.int .u8 0) n 24).congr fun i _ => rfl
  case round =>
    obtain ⟨k, hk, rfl, HR, HB⟩ := hrel
    by_cases hlt : k < n
    · obtain ⟨g, p, o, rfl, hlk, hg, c0, c1, c2, c3⟩ := (HL.out.below HB.out).at_ k hlt
      have d0 : wr.cell? ⟨w.heap.size, k, none⟩ = some (.int .u8 0) := by rw [HR.out.cell (by omega)]; unfold kfill; rw [if_neg (by omega)]
      have d1 : wr.frozen? ⟨w.heap.size, k, none⟩ = false := HR.out.frozen _
      have hlt2 := HR.out.lt
      have HR2 : Hid (((wr.setCell ⟨w.heap.size, k, none⟩ (.int .u8 o.k)).alloc (.cells #[.int .u8 o.k, .int .i64 o.n, .string o.s, .int .i64 o.e] 34)).rowIs w.heap.size 24 n (kfill l (k + 1))) := by
        refine ((HR.out.set k _).alloc _).congr fun i _ => ?_
        unfold kfill
        by_cases hi : i = k
        · subst hi
          rw [if_pos rfl, if_pos (by omega), List.getD_eq_getElem?_getD, hlk]; rfl
        · rw [if_neg hi]
          by_cases h2 : i < k
          · rw [if_pos h2, if_pos (by omega)]
          · rw [if_neg h2, if_neg (by omega)]
      clear HR hlk
      go_wp2
      exact ⟨⟨k + 1, by omega, by go_num, HR2.out, bel_alloc (bel_set HB.out (Nat.le_refl _) _) _⟩, by simp [intOf]; omega⟩
    · obtain rfl : k = n := by omega
      have hOne : Hid (One kI wr (some ⟨w.heap.size, 0, none⟩) k (l.map (·.k))) := by
        refine ⟨by rw [List.length_map]; exact hnl.out, fun i hi => ⟨w.heap.size, 0, (l.getD i nul).k, rfl, ?_, HR.out.lt, ?_⟩⟩
        · have : i < l.length := by have := hnl.out; omega
          simp [this]
        · rw [Nat.zero_add, HR.out.cell hi]; unfold kfill; rw [if_pos hi]
      clear HR
      go_wp2
      go_ret
      exact ⟨⟨_, rfl, hOne.out⟩, HB.out⟩
/-! ### OR -/
def oc (o : Ot) : Nat → Value
  | 0 => .int .u8 o.k
  | 1 => .int .i64 o.n
  | 2 => .string o.s
  | _ => .int .i64 o.e
def ofill (m : List Ot) (k : Nat) : Nat → Value := fun i => oc (if i / 4 < k then m.getD (i / 4) nul else nul) (i % 4)
theorem run_make_outs (n : Nat) (hb : 40 * n ≤ 281474976710656) (w : World) :
    (Instr.makeSlice 30 (.int .i64 (n : Int)) (.int .i64 (n : Int))).run Tryz.prog w = .ok (.slice (some ⟨w.heap.size, 0, none⟩) n n) (w.alloc (.cells (madeCells #[.int .u8 0, .int .i64 0, .string ⟨#[]⟩, .int .i64 0] (n * 4)) 34)) := by
  obtain ⟨i, hi, hzz⟩ := Option.map_eq_some_iff.1 infoOut
  simp only [Prod.mk.injEq] at hzz
  obtain ⟨hz, hs, hbb⟩ := hzz
  have hr := run_make (P := Tryz.prog) w 30 34 i _ Tryz.underlying30 hi hz .i64 .i64 n n (by omega) (Int.le_refl _) (by rw [hbb]; omega) (by omega)
  simp only [Int.toNat_natCast, hs] at hr
  exact hr
theorem made_outs (w : World) (n : Nat) (m : List Ot) : (w.alloc (.cells (madeCells #[.int .u8 0, .int .i64 0, .string ⟨#[]⟩, .int .i64 0] (n * 4)) 34)).rowIs w.heap.size 34 (n * 4) (ofill m 0) :=
  ⟨_, Go.Deep.blk_alloc_new _ _, size_madeCells _ _, fun i hi => by
    have h4 : i % 4 < 4 := Nat.mod_lt _ (by omega)
    simp only [madeCells, Array.getElem?_map, Array.getElem?_range, hi, ofill, Nat.not_lt_zero, if_false]
    have : i % 4 = 0 ∨ i % 4 = 1 ∨ i % 4 = 2 ∨ i % 4 = 3 := by omega
    rcases this with e | e | e | e <;> simp [e, oc]⟩
theorem ofill_cell {w : World} {b n k : Nat} {m : List Ot} (h : w.rowIs b 34 (n * 4) (ofill m k)) {i : Nat} (hi : i < n) (r : Nat) (hr : r < 4) : w.cell? ⟨b, i * 4 + r, none⟩ = some (oc (if i < k then m.getD i nul else nul) r) := by
  rw [h.cell (by omega)]
  unfold ofill
  have e1 : (i * 4 + r) / 4 = i := by omega
  have e2 : (i * 4 + r) % 4 = r := by omega
  rw [e1, e2]
/-- The cells of one out written into the row. -/
abbrev put4at (W : World) (b i : Nat) (o : Ot) : World := (((W.setCell ⟨b, i * 4, none⟩ (.int .u8 o.k)).setCell ⟨b, i * 4 + 1, none⟩ (.int .i64 o.n)).setCell ⟨b, i * 4 + 2, none⟩ (.string o.s)).setCell ⟨b, i * 4 + 3, none⟩ (.int .i64 o.e)
theorem st4 {w : World} {b i : Nat} {u0 u1 u2 u3 : Value} (o : Ot) (q0 : w.cell? ⟨b, i, none⟩ = some u0) (q1 : w.cell? ⟨b, i + 1, none⟩ = some u1) (q2 : w.cell? ⟨b, i + 2, none⟩ = some u2) (q3 : w.cell? ⟨b, i + 3, none⟩ = some u3)
    (r0 : w.frozen? ⟨b, i, none⟩ = false) (r1 : w.frozen? ⟨b, i + 1, none⟩ = false) (r2 : w.frozen? ⟨b, i + 2, none⟩ = false) (r3 : w.frozen? ⟨b, i + 3, none⟩ = false) :
    (storeCells ⟨b, i, none⟩ [.int .u8 o.k, .int .i64 o.n, .string o.s, .int .i64 o.e] 0).run Tryz.prog w = .ok () ((((w.setCell ⟨b, i, none⟩ (.int .u8 o.k)).setCell ⟨b, i + 1, none⟩ (.int .i64 o.n)).setCell ⟨b, i + 2, none⟩ (.string o.s)).setCell ⟨b, i + 3, none⟩ (.int .i64 o.e)) := by
  simp [storeCells, go_sem, *]
  done
theorem run_store4 {w : World} {b i : Nat} {u0 u1 u2 u3 : Value} (o : Ot) (q0 : w.cell? ⟨b, i, none⟩ = some u0) (q1 : w.cell? ⟨b, i + 1, none⟩ = some u1) (q2 : w.cell? ⟨b, i + 2, none⟩ = some u2) (q3 : w.cell? ⟨b, i + 3, none⟩ = some u3)
    (r0 : w.frozen? ⟨b, i, none⟩ = false) (r1 : w.frozen? ⟨b, i + 1, none⟩ = false) (r2 : w.frozen? ⟨b, i + 2, none⟩ = false) (r3 : w.frozen? ⟨b, i + 3, none⟩ = false) :
    (storeVar 34 ⟨b, i, none⟩ (enc o)).run Tryz.prog w = .ok () ((((w.setCell ⟨b, i, none⟩ (.int .u8 o.k)).setCell ⟨b, i + 1, none⟩ (.int .i64 o.n)).setCell ⟨b, i + 2, none⟩ (.string o.s)).setCell ⟨b, i + 3, none⟩ (.int .i64 o.e)) := by
  have h := st4 o q0 q1 q2 q3 r0 r1 r2 r3
  obtain ⟨x, hi, hz⟩ := Option.map_eq_some_iff.1 infoOut
  simp only [Prod.mk.injEq] at hz
  simp [storeVar, sizeOf, typeInfo, hi, hz.2.1, Value.cells, h]
/-- A whole out stored: at the walk's list. -/
theorem wpl_store4 {ops : Array Oper} {rest : List Oper} {typ : TypeId} {ps : String} {af : Array Edge} {x y : Operand} {Q : Exit → Act → World → Prop} {a : Act} {w w' : World} {b i : Nat} {o : Ot}
    (hx : a.eval x = .pointer (some ⟨b, i, none⟩)) (hy : a.eval y = enc o) (hr : (storeVar 34 ⟨b, i, none⟩ (enc o)).run Tryz.prog w = .ok () w')
    (h : wpList Tryz.prog ops Q rest a w') : wpList Tryz.prog ops Q ({ dst := none, op := .store 34 x y, type := typ, pos := ps, after := af, guard := none } :: rest) a w := by
  refine wpList_plain rfl fun K hK => ?_
  unfold Oper.wp execOp
  simp only [hx, hy, Instr.storeAt, Instr.sureAddr, Sem.run_bind, Sem.run_pure, Result.andThen_ok, hr]
  exact hK _ _ h
theorem ofill_put {w : World} {b n k : Nat} {m : List Ot} (h : w.rowIs b 34 (n * 4) (ofill m k)) (hk : k < n) {o : Ot} (ho : m.getD k nul = o) : (put4at w b k o).rowIs b 34 (n * 4) (ofill m (k + 1)) := by
  refine ((((h.set (k * 4) _).set (k * 4 + 1) _).set (k * 4 + 2) _).set (k * 4 + 3) _).congr fun i _ => ?_
  unfold ofill
  by_cases h3 : i = k * 4 + 3
  · subst h3
    have e1 : (k * 4 + 3) / 4 = k := by omega
    have e2 : (k * 4 + 3) % 4 = 3 := by omega
    simp only [e1, e2, if_true]
    rw [if_pos (by omega), ho]; rfl
  rw [if_neg h3]
  by_cases h2 : i = k * 4 + 2
  · subst h2
    have e1 : (k * 4 + 2) / 4 = k := by omega
    have e2 : (k * 4 + 2) % 4 = 2 := by omega
    simp only [e1, e2, if_true]
    rw [if_pos (by omega), ho]; rfl
  rw [if_neg h2]
  by_cases h1 : i = k * 4 + 1
  · subst h1
    have e1 : (k * 4 + 1) / 4 = k := by omega
    have e2 : (k * 4 + 1) % 4 = 1 := by omega
    simp only [e1, e2, if_true]
    rw [if_pos (by omega), ho]; rfl
  rw [if_neg h1]
  by_cases h0 : i = k * 4
  · subst h0
    have e1 : (k * 4) / 4 = k := by omega
    have e2 : (k * 4) % 4 = 0 := by omega
    simp only [e1, e2, if_true]
    rw [if_pos (by omega), ho]; rfl
  rw [if_neg h0]
  by_cases hlt : i / 4 < k
  · rw [if_pos hlt, if_pos (by omega)]
  · rw [if_neg hlt, if_neg (by omega)]
theorem ofill_outs {w : World} {b n : Nat} {m : List Ot} (h : w.rowIs b 34 (n * 4) (ofill m n)) (hn : n = m.length) : Outs w (some ⟨b, 0, none⟩) n m := by
  refine ⟨hn, fun k hk => ⟨b, 0, m.getD k nul, rfl, ?_, h.lt, ?_, ?_, ?_, ?_⟩⟩
  · have : k < m.length := by omega
    simp [this]
  · have := ofill_cell h hk 0 (by omega); rw [if_pos hk] at this; simpa [oc] using this
  · have := ofill_cell h hk 1 (by omega); rw [if_pos hk] at this; simpa [oc] using this
  · have := ofill_cell h hk 2 (by omega); rw [if_pos hk] at this; simpa [oc] using this
  · have := ofill_cell h hk 3 (by omega); rw [if_pos hk] at this; simpa [oc] using this
theorem c_not (o : Ot) (h : tr o = true) (w : World) : Ret 85 #[enc o] w (enc (neg o)) := by
  rcases tr_cases h with rfl | rfl | rfl | ⟨e, he, rfl⟩
  · exact c_not_n 0 0 _ 0 (by decide) w
  · exact c_not_b 1 (.inr rfl) w
  · exact c_not_b 0 (.inl rfl) w
  · exact c_not_n 0 0 _ e (by decide) w
set_option maxRecDepth 100000 in
set_option maxHeartbeats 2000000 in
theorem c_or (a : Option Addr) (n c : Nat) (l : List Ot) (hsz : 40 * n ≤ 281474976710656) (ht : l.all tr = true) (w : World) (h : Outs w a n l) : Ret 52 #[.slice a n c] w (enc (neg (andP (bo true) (l.map neg)))) := by
  have HL := Lib.hid h
  have hnl := Lib.hid h.len
  have HT := Lib.hid ht
  clear h ht
  have hmk := run_make_outs n hsz
  go_enter Tryz.func52, Tryz.ntmps52
  go_wp2
  have HR0 : Hid (Box ((box w 0 0 ⟨#[]⟩ 0).alloc (.cells (madeCells #[.int .u8 0, .int .i64 0, .string ⟨#[]⟩, .int .i64 0] (n * 4)) 34)) w.heap.size nul) := (Box.new w nul).alloc _
  go_loopw [11] (fun s11 wr => ∃ (k : Nat), k ≤ n ∧ s11 = .int .i64 k ∧ Hid (wr.rowIs (w.heap.size + 1) 34 (n * 4) (ofill (l.map neg) k)) ∧ Hid (Box wr w.heap.size nul) ∧ Hid (Below w.heap.size w wr)) (fun s11 _ => n - (intOf s11).toNat)
  case atStart =>
    refine ⟨0, by omega, rfl, ?_, HR0.out, bel_alloc (bel_alloc (Below.refl _ _) _) _⟩
    have := made_outs (box w 0 0 ⟨#[]⟩ 0) n (l.map neg)
    rw [World.size_alloc] at this
    exact this
  case round =>
    clear HR0
    obtain ⟨k, hk, rfl, HR, HX, HB⟩ := hrel
    by_cases hlt : k < n
    · obtain ⟨g, p, o, rfl, hlk, hg, c0, c1, c2, c3⟩ := (HL.out.below HB.out).at_ k hlt
      have HTo : Hid (tr o = true) := List.all_eq_true.1 HT.out o (List.mem_of_getElem? hlk)
      have hgd : Hid ((l.map neg).getD k nul = neg o) := by
        show _ = _
        rw [List.getD_eq_getElem?_getD, List.getElem?_map, hlk]; rfl
      clear hlk
      have hlt2 := HR.out.lt
      go_wp2_with fail
      refine (c_not o HTo.out _).mono ?_
      rintro e w2 ⟨rfl, hb2⟩
      have B2 : Below wr.heap.size wr w2 := bel_trans (bel_alloc (Below.refl _ _) _) hb2
      have HB2 : Hid (Below w.heap.size w w2) := bel_trans HB.out B2
      have HX2 := Lib.hid (HX.out.below B2)
      have HR2 : Hid (w2.rowIs (w.heap.size + 1) 34 (n * 4) (ofill (l.map neg) k)) := HR.out.of_block (B2.block _ hlt2)
      have q0 := ofill_cell HR2.out hlt 0 (by omega)
      have q1 := ofill_cell HR2.out hlt 1 (by omega)
      have q2 := ofill_cell HR2.out hlt 2 (by omega)
      have q3 := ofill_cell HR2.out hlt 3 (by omega)
      rw [if_neg (by omega)] at q0 q1 q2 q3
      rw [Nat.add_zero] at q0
      have r0 := HR2.out.frozen (k * 4)
      have r1 := HR2.out.frozen (k * 4 + 1)
      have r2 := HR2.out.frozen (k * 4 + 2)
      have r3 := HR2.out.frozen (k * 4 + 3)
      have hst := Lib.hid (run_store4 (neg o) q0 q1 q2 q3 r0 r1 r2 r3)
      have HR3 : Hid ((put4at w2 (w.heap.size + 1) k (neg o)).rowIs (w.heap.size + 1) 34 (n * 4) (ofill (l.map neg) (k + 1))) := ofill_put HR2.out hlt hgd.out
      have HX3 : Hid (Box (put4at w2 (w.heap.size + 1) k (neg o)) w.heap.size nul) := by
        obtain ⟨h0, h1, h2, h3, h4, h5, h6, h7, h8⟩ := HX2.out
        constructor <;> simp [go_sem, *]
      have HB3 : Hid (Below w.heap.size w (put4at w2 (w.heap.size + 1) k (neg o))) := bel_set (bel_set (bel_set (bel_set HB2.out (by simp) _) (by simp) _) (by simp) _) (by simp) _
      clear HR HX HB hb2 B2 HR2 HX2 HB2 hgd q0 q1 q2 q3 r0 r1 r2 r3
      go_wp2_with ((with_reducible refine wpl_store4 (o := neg o) ?_ ?_ hst.out ?_); rfl; rfl)
      exact ⟨⟨k + 1, by omega, by go_num, HR3.out, HX3.out, HB3.out⟩, by simp [intOf]; omega⟩
    · obtain rfl : k = n := by omega
      have HO : Hid (Outs wr (some ⟨w.heap.size + 1, 0, none⟩) k (l.map neg)) := ofill_outs HR.out (by rw [List.length_map]; exact hnl.out)
      have HT2 : Hid ((l.map neg).all tr = true) := all_neg HT.out
      have HTa : Hid (tr (andP (bo true) (l.map neg)) = true) := by
        show _ = _
        rw [and_is HT2.out, chain_is false HT2.out]; exact tr_dec (mr_is HT2.out)
      clear HR
      go_wp2_with fail
      refine (c_and _ _ _ _ (by omega) HT2.out _ HO.out).mono ?_
      rintro e w2 ⟨rfl, hb2⟩
      have HX2 := Lib.hid (HX.out.below hb2)
      have HB2 : Hid (Below w.heap.size w w2) := bel_trans HB.out hb2
      clear hb2 HX HB
      generalize hr : andP (bo true) (l.map neg) = r at HTa ⊢
      have hr := Lib.hid hr
      go_wp2_with fail
      refine (c_not r HTa.out _).mono ?_
      rintro e w3 ⟨rfl, hb3⟩
      obtain ⟨hx, d0, d1, d2, d3, e0, e1, e2, e3⟩ := HX2.out.below hb3
      have HB3 : Hid (Below w.heap.size w w3) := bel_trans HB2.out hb3
      clear hb3
      generalize hz : neg r = z
      have hz := Lib.hid hz
      go_wp2
      exact bodyPost_ret (v := ov z.k z.n z.s z.e) (by simp [results, Tryz.results52, go_sem, *]) rfl ⟨ret_v (by rw [hr.out, hz.out]), put4_below HB3.out (Nat.le_refl _) _⟩
end Go.Proofs.YtefelelhgepkeaaGreatDoor.K
