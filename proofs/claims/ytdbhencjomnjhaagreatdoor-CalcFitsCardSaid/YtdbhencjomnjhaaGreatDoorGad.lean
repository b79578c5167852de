/- The kids of a CASE parted into conditions and values: partCase, over slices.Chunk. -/
import Derived.Test.YtdbhencjomnjhaaGreatDoorGac
import Derived.Maps.AppendAt
namespace Go.Proofs.YtdbhencjomnjhaaGreatDoor.K
open Go.ChangeShapes Go.WideShapes Go.ChangeAt Go.RowKit Go.Proofs.YtdbhencjomnjhaaGreatDoor.V Go.Shelf
attribute [local go_sem] Oper.semAt_some
theorem c_ChunkK (a : Option Addr) (n c : Nat) (w : World) : Calls Tryz.prog 50 #[.slice a n c, .int .i64 2] w fun e w' => e = .returned (.func (.func 65) #[] #[.pointer (some ⟨w.heap.size, 0, none⟩), .pointer (some ⟨w.heap.size + 1, 0, none⟩)]) ∧ (w.alloc (.cells #[.slice a n c] 24)).alloc (.cells #[.int .i64 2] 3) = w' := by
  go_enter Tryz.func50, Tryz.ntmps50
  go_wp2
  go_ret
  exact ⟨rfl, rfl⟩
theorem seqK (m : Nat) (hm : 1 ≤ m) (Bs Bn g p n c : Nat) (hnc : n ≤ c) (hc : c ≤ 9223372036854775807) (hsz : n ≤ 140737488351232) (a : Option Addr) (ha : 0 < n → a = some ⟨g, p, none⟩) (w : World) (hB : Bs < w.heap.size) (hB2 : Bn < w.heap.size)
    (hBs : w.cell? ⟨Bs, 0, none⟩ = some (.slice a n c)) (hBn : w.cell? ⟨Bn, 0, none⟩ = some (.int .i64 2)) :
    SeqStopsK Fence.wide m Tryz.prog 65 #[.pointer (some ⟨Bs, 0, none⟩), .pointer (some ⟨Bn, 0, none⟩)] (fun x : Fin (chunks n) => #[.slice (some ⟨g, p + 2 * x.val, none⟩) (wid n x.val) (wid n x.val)]) (Kept Bs Bn)
      (fun ys => ys = List.finRange (chunks n)) (fun pre => ∃ k, pre = firsts n k) (chunks n) w :=
  fun l J Jx W hW hJ _ hY h0 =>
    (chunkK_in m hm l Bs Bn g p n c hnc hc hsz a ha J Jx (fun s W m hs => hJ s W _ none hs ⟨rfl, rfl, rfl, Nat.le_refl _, fun _ _ _ => rfl⟩ (fun r e => by cases e)) hY W ((hW.cell (p := ⟨Bs, 0, none⟩) hB).trans hBs) ((hW.cell (p := ⟨Bn, 0, none⟩) hB2).trans hBn) h0).mono
      fun e W' ⟨h1, h2⟩ => ⟨h1, h2.imp id fun ⟨k, hk⟩ => ⟨_, ⟨k, rfl⟩, hk⟩⟩
/-! ### What a chunk gives -/
def condAt (l : List Int) (j : Nat) : List Int := if 2 * j + 1 < l.length then [l.getD (2 * j) 0] else []
def valAt (l : List Int) (j : Nat) : List Int := if 2 * j + 1 < l.length then [l.getD (2 * j + 1) 0] else [l.getD (2 * j) 0]
theorem parts_at : ∀ l : List Int, (List.range (chunks l.length)).flatMap (condAt l) = (parts l).1 ∧ (List.range (chunks l.length)).flatMap (valAt l) = (parts l).2
  | [] => ⟨rfl, rfl⟩
  | [x] => ⟨by simp [chunks, condAt, parts], by simp [chunks, valAt, parts]⟩
  | x :: y :: t => by
    have h := parts_at t
    have hc : chunks (x :: y :: t).length = chunks t.length + 1 := by simp [chunks]; omega
    have e1 : ∀ j, condAt (x :: y :: t) (j + 1) = condAt t j := by
      intro j
      unfold condAt
      have : 2 * (j + 1) = 2 * j + 1 + 1 := by omega
      simp only [this, List.length_cons, List.getD_cons_succ]
      by_cases hj : 2 * j + 1 < t.length
      · rw [if_pos hj, if_pos (by omega)]
      · rw [if_neg hj, if_neg (by omega)]
    have e2 : ∀ j, valAt (x :: y :: t) (j + 1) = valAt t j := by
      intro j
      unfold valAt
      have : 2 * (j + 1) = 2 * j + 1 + 1 := by omega
      simp only [this, List.length_cons, List.getD_cons_succ]
      by_cases hj : 2 * j + 1 < t.length
      · rw [if_pos hj, if_pos (by omega)]
      · rw [if_neg hj, if_neg (by omega)]
    rw [hc, List.range_succ_eq_map, List.flatMap_cons, List.flatMap_cons, List.flatMap_map, List.flatMap_map]
    simp only [e1, e2, h.1, h.2, parts]
    simp [condAt, valAt]
theorem fin_range (k : Nat) (f : Nat → List Int) : (List.finRange k).flatMap (fun x => f x.val) = (List.range k).flatMap f := by
  have e : (List.finRange k).map (fun x => x.val) = List.range k := by
    apply List.ext_getElem <;> simp
  rw [← e, List.flatMap_map]
def conds (l : List Int) (n : Nat) (pre : List (Fin (chunks n))) : List Int := pre.flatMap (fun x => condAt l x.val)
def vals (l : List Int) (n : Nat) (pre : List (Fin (chunks n))) : List Int := pre.flatMap (fun x => valAt l x.val)
/-- Two rows in blocks of their own. -/
def ApartV (u v : Value) : Prop := ∀ k, u.ownBlock = some k → v.ownBlock ≠ some k
/-- What stands while the chunks are gone through. -/
def PJ (B : Nat) (l : List Int) (n : Nat) (pre : List (Fin (chunks n))) (W : World) : Prop :=
  ∃ v2 v3, W.cell? ⟨B, 0, none⟩ = some v2 ∧ W.frozen? ⟨B, 0, none⟩ = false ∧ W.cell? ⟨B + 1, 0, none⟩ = some v3 ∧ W.frozen? ⟨B + 1, 0, none⟩ = false ∧
    W.ownsRow (B + 4) 26 1 v2 (conds l n pre).length ((conds l n pre).map kI) ∧ W.ownsRow (B + 4) 26 1 v3 (vals l n pre).length ((vals l n pre).map kI) ∧ ApartV v2 v3 ∧ B + 4 ≤ W.heap.size
theorem own_cells {w w' : World} {row : Option Nat} {base : Nat} {e : TypeId} {size : Nat} {v : Value} {n : Nat} {xs : List Value} (h : w.ownsRow base e size v n xs) (hg : w.grownBy w' row) (hr : ∀ r, row = some r → ∃ o : Obj, w.heap[r]? = some o ∧ o.isCells = false) : w'.ownsRow base e size v n xs := by
  by_cases hv : v.ownBlock = none ∨ v.ownBlock ≠ row
  · exact h.kept hg hv
  · obtain ⟨h1, h2⟩ := not_or.1 hv
    have h2 := Decidable.not_not.1 h2
    obtain ⟨k, hk⟩ := Option.ne_none_iff_exists'.1 h1
    obtain ⟨o, ho, hc⟩ := hr k (h2 ▸ hk)
    rcases h.2 with ⟨rfl, -⟩ | ⟨g, cap, cur, rfl, -, hb, -⟩
    · cases hk
    · have : g = k := Option.some.inj hk
      subst this
      rw [hb] at ho
      cases Option.some.inj ho
      cases hc
theorem PJ_own (B : Nat) (l : List Int) (n : Nat) : Own (PJ B l n) := by
  rintro s W W' row ⟨v2, v3, h1, h2, h3, h4, h5, h6, h7, h8⟩ hg hr
  exact ⟨v2, v3, cell_kept h1 hg hr, (frozen_kept h1 hg hr).trans h2, cell_kept h3 hg hr, (frozen_kept h3 hg hr).trans h4, own_cells h5 hg hr, own_cells h6 hg hr, h7, Nat.le_trans h8 hg.size⟩
/-- A value that reads as a list of kinds. -/
def KindsV (W : World) (v : Value) (l : List Int) : Prop := ∃ a n c, v = .slice a n c ∧ n ≤ 9223372036854775807 ∧ One kI W a n l
theorem info_parts {T : TypeId} {z : Value} {s b : Nat} (h : (Tryz.prog.info? T).map (fun i => (i.zero, i.size, i.bytes)) = some (some z, s, b)) : ∃ i, Tryz.prog.info? T = some i ∧ i.zero = some z ∧ i.size = s ∧ i.bytes = b := by
  cases hi : Tryz.prog.info? T with
  | none => rw [hi] at h; cases h
  | some i =>
    rw [hi] at h
    have := Option.some.inj h
    simp only [Prod.mk.injEq] at this
    exact ⟨i, rfl, this.1, this.2.1, this.2.2⟩
/-- An append whose run is known, at its operation. -/
theorem app_op {P : Program} {n : Nat} {o : Oper} {a : Act} {w w' : World} {K : Act → World → Prop} {Q : Exit → Act → World → Prop} {s x : Operand} {t : TypeId} {v vx v' : Value}
    (ho : o.op = .call { callee := .builtin .append, args := #[s, x], argTypes := #[t, t] }) (hs : a.eval s = v) (hx : a.eval x = vx) (hr : (Builtin.append_ #[t, t] o.type #[v, vx]).run P w = .ok v' w')
    (h : K (a.put o.dst v') w') : o.wpIn Fence.wide n P a w K Q := by
  refine ⟨fun _ _ => trivial, ?_⟩
  rw [Oper.semAt_eq _ _ _ (fun c e => by rw [ho] at e; cases e)]
  unfold execOp
  simp only [ho, resolve, invoke, builtin, Sem.run_bind, Sem.run_pure, Result.andThen_ok, List.map_toArray, List.map_cons, List.map_nil, hs, hx, hr]
  exact h
theorem infoKind : (Tryz.prog.info? 26).map (fun i => (i.zero, i.size, i.bytes)) = some (some (.int .u8 0), 1, 1) := by kernel_rfl
theorem cell_alloc_l5 {W : World} {a : Addr} {v : Value} (o : Obj) (h : W.cell? a = some v) : (W.alloc o).cell? a = some v := cell_kept h (World.grownBy_alloc W o none) (fun r e => by cases e)
theorem frozen_alloc_l5 {W : World} {a : Addr} {v : Value} (o : Obj) (h : W.cell? a = some v) (hf : W.frozen? a = false) : (W.alloc o).frozen? a = false := (frozen_kept h (World.grownBy_alloc W o none) (fun r e => by cases e)).trans hf
theorem own_slice {w : World} {base : Nat} {e : TypeId} {size : Nat} {v : Value} {n : Nat} {xs : List Value} (h : w.ownsRow base e size v n xs) : ∃ a c, v = .slice a n c := by
  rcases h.2 with ⟨rfl, rfl⟩ | ⟨g, cap, cur, rfl, _⟩
  · exact ⟨none, 0, rfl⟩
  · exact ⟨_, _, rfl⟩
theorem own_kinds {w : World} {base : Nat} {e : TypeId} {v : Value} {xs : List Int} (h : w.ownsRow base e 1 v xs.length (xs.map kI)) : KindsV w v xs := by
  have h0 := h
  rcases h.2 with ⟨rfl, hn⟩ | ⟨g, cap, cur, rfl, -, hg, hnc, hcm, -, -⟩
  · exact ⟨none, 0, 0, rfl, by omega, hn.symm, fun k hk => absurd hk (Nat.not_lt_zero _)⟩
  · refine ⟨_, _, _, rfl, by unfold maxLen at hcm; omega, rfl, fun k hk => ⟨g, 0, xs[k], rfl, by simp [hk], (Array.getElem?_eq_some_iff.1 hg).1, ?_⟩⟩
    have := h0.cellAt k (by omega)
    rw [Nat.zero_add, this]
    simp [hk]
/-- What an append to a row of kinds in box b leaves, box b' and its row beside it. -/
structure Grew (w W : World) (base b b' : Nat) (v' : Value) (xs ys : List Int) (a2 : Option Addr) (m cp : Nat) (w2 : World) : Prop where
  o : w2.cell? ⟨b, 0, none⟩ = W.cell? ⟨b, 0, none⟩
  fo : w2.frozen? ⟨b, 0, none⟩ = false
  c : (w2.setCell ⟨b, 0, none⟩ (.slice a2 m cp)).cell? ⟨b, 0, none⟩ = some (.slice a2 m cp)
  f : (w2.setCell ⟨b, 0, none⟩ (.slice a2 m cp)).frozen? ⟨b, 0, none⟩ = false
  c' : (w2.setCell ⟨b, 0, none⟩ (.slice a2 m cp)).cell? ⟨b', 0, none⟩ = some v'
  f' : (w2.setCell ⟨b, 0, none⟩ (.slice a2 m cp)).frozen? ⟨b', 0, none⟩ = false
  r : (w2.setCell ⟨b, 0, none⟩ (.slice a2 m cp)).ownsRow base 26 1 (.slice a2 m cp) m (xs.map kI)
  r' : (w2.setCell ⟨b, 0, none⟩ (.slice a2 m cp)).ownsRow base 26 1 v' ys.length (ys.map kI)
  ap : ApartV (.slice a2 m cp) v'
  bel : Below w.heap.size w (w2.setCell ⟨b, 0, none⟩ (.slice a2 m cp))
  ko : KeepsOthers W (w2.setCell ⟨b, 0, none⟩ (.slice a2 m cp))
  other : ∀ k, k < base → k ≠ b → (w2.setCell ⟨b, 0, none⟩ (.slice a2 m cp)).cell? ⟨k, 0, none⟩ = W.cell? ⟨k, 0, none⟩
  size : W.heap.size ≤ (w2.setCell ⟨b, 0, none⟩ (.slice a2 m cp)).heap.size
theorem lt_cell {W : World} {b o : Nat} {v : Value} (h : W.cell? ⟨b, o, none⟩ = some v) : b < W.heap.size := by
  rcases Nat.lt_or_ge b W.heap.size with h' | h'
  · exact h'
  · unfold World.cell? at h; simp [Array.getElem?_eq_none h'] at h
theorem app_box {w W : World} {base b b' : Nat} {v v' : Value} {xs ys news : List Int} (hb : w.heap.size ≤ b) (hlt : b < base) (hlt' : b' < base) (hne : b ≠ b') (hbase : base ≤ W.heap.size)
    (c : W.cell? ⟨b, 0, none⟩ = some v) (f : W.frozen? ⟨b, 0, none⟩ = false) (c' : W.cell? ⟨b', 0, none⟩ = some v') (f' : W.frozen? ⟨b', 0, none⟩ = false)
    (O : W.ownsRow base 26 1 v xs.length (xs.map kI)) (O' : W.ownsRow base 26 1 v' ys.length (ys.map kI)) (hA : ApartV v v') (hB : Below w.heap.size w W) (ad : Addr) (cap : Nat)
    (hnews : ∀ j u, (news.map kI)[j]? = some u → W.cell? (ad.add j) = some u) (hlen : xs.length + news.length ≤ 140737488351232) :
    ∃ a2 m cp w2, (Builtin.append_ #[24, 24] 24 #[v, .slice (some ad) news.length cap]).run Tryz.prog W.drew = .ok (.slice a2 m cp) w2 ∧ Hid (m = (xs ++ news).length) ∧ Grew w W base b b' v' (xs ++ news) ys a2 m cp w2 := by
  obtain ⟨i, hi, hz, hs, hby⟩ := info_parts infoKind
  obtain ⟨v2, w2, hr, O2, hg, -, hnb⟩ := run_append_own_at (P := Tryz.prog) (w := W.drew) base 24 24 26 i _ 1 1 Tryz.underlying24 hi hz hs hby rfl (by omega) v _ _ O.drew ad news.length cap (news.map kI) (by simp) hnews
    (by intro u hu; obtain ⟨x, -, rfl⟩ := List.mem_map.1 hu; rfl) (by unfold maxLen; omega) (by omega) hbase
  rw [← List.length_append, ← List.map_append] at O2
  obtain ⟨a2, cp, rfl⟩ := own_slice O2
  have hrow : ∀ k, v.ownBlock = some k → base ≤ k := fun k hk => (O.lt k hk).1
  have hkeep : ∀ k, k < base → w2.heap[k]? = W.heap[k]? := fun k hk => hg.block k (by show k < W.heap.size; omega) (fun e => by have := hrow k e.symm; omega)
  have hcell : ∀ k, k < base → w2.cell? ⟨k, 0, none⟩ = W.cell? ⟨k, 0, none⟩ := fun k hk => World.cell?_of_block (hkeep k hk)
  have hfro : ∀ k, k < base → w2.frozen? ⟨k, 0, none⟩ = W.frozen? ⟨k, 0, none⟩ := fun k hk => World.frozen?_of_block (hkeep k hk)
  have hO' : w2.ownsRow base 26 1 v' ys.length (ys.map kI) := by
    refine (O'.drew).kept hg ?_
    cases hv : v'.ownBlock with
    | none => exact .inl rfl
    | some k => exact .inr fun e => hA k e.symm hv
  refine ⟨a2, _, cp, w2, hr, rfl, ?_⟩
  constructor
  · exact hcell b hlt
  · exact (hfro b hlt).trans f
  · exact World.cell?_setCell_same' _ _ _ (by rw [hcell b hlt, c]; rfl)
  · rw [World.frozen?_setCell]; exact (hfro b hlt).trans f
  · rw [World.cell?_setCell_other _ _ _ _ (fun e => by injection e with e1 e2; omega)]; exact (hcell b' hlt').trans c'
  · rw [World.frozen?_setCell]; exact (hfro b' hlt').trans f'
  · exact ownsRow_setCell_below O2 hlt _
  · exact ownsRow_setCell_below hO' hlt _
  · intro k hk e
    rcases hnb with h | h
    · exact hA k (h ▸ hk) e
    · rw [h] at hk
      have h1 := (O'.lt k e).2
      have h2 : W.heap.size = k := Option.some.inj hk
      omega
  · refine bel_set ?_ hb _
    refine ⟨hg.os.trans hB.os, hg.tape.trans hB.tape, hg.output.trans hB.output, Nat.le_trans hB.size hg.size, fun k hk => (hkeep k (by omega)).trans (hB.block k hk)⟩
  · refine (KeepsOthers.drew W).trans ((KeepsOthers.of_grownBy hg (fun j o e ho => ?_)).trans (KeepsOthers.setCell _ _ _))
    rcases O.2 with ⟨rfl, -⟩ | ⟨g, cap', cur, rfl, -, hgg, -⟩
    · cases e
    · obtain rfl : g = j := Option.some.inj e
      cases Option.some.inj (hgg.symm.trans ho)
      rfl
  · intro k hk hkb
    rw [World.cell?_setCell_other _ _ _ _ (fun e => by injection e with e1 e2; omega)]
    exact hcell k hk
  · refine Nat.le_trans hg.size ?_
    simp
set_option maxRecDepth 100000 in
set_option maxHeartbeats 2000000 in
theorem c_partCase (a : Option Addr) (n c : Nat) (l : List Int) (hnc : n ≤ c) (hc : c ≤ 9223372036854775807) (hsz : n ≤ 140737488351232) (w : World) (h : One kI w a n l) :
    Calls Tryz.prog 25 #[.slice a n c] w fun e w' => (∃ v2 v3, e = .returned (.tuple #[v2, v3]) ∧ KindsV w' v2 (parts l).1 ∧ KindsV w' v3 (parts l).2) ∧ Below w.heap.size w w' := by
  have HL := Lib.hid h
  have HLn := Lib.hid h.len
  have hgp : ∃ g p, 0 < n → a = some ⟨g, p, none⟩ := by
    by_cases h0 : 0 < n
    · obtain ⟨g, p, o, h1, -⟩ := h.at_ 0 h0
      exact ⟨g, p, fun _ => h1⟩
    · exact ⟨0, 0, fun e => absurd e h0⟩
  obtain ⟨g, p, hgp⟩ := hgp
  clear h
  refine (callsIn_wide (n := 3)).1 ?_
  refine callsIn_of_wp_marks Tryz.func25 rfl trivial ?_ rfl
  simp only [Tryz.ntmps25, List.size_toArray, List.length_cons, List.length_nil, Nat.reduceAdd, Nat.reduceSub, Array.replicate_succ, Array.replicate_zero, List.push_toArray, List.append_toArray, List.nil_append, List.cons_append]
  gi_wp2_with (refine ⟨trivial, ?_⟩; gi_at_call 50; refine (callsIn_wide.2 (c_ChunkK _ _ _ _)).mono ?_; rintro e w' ⟨rfl, rfl⟩)
  have hB0 : Below w.heap.size w ((((w.alloc (.cells #[.slice none 0 0] 24)).alloc (.cells #[.slice none 0 0] 24)).alloc (.cells #[.slice a n c] 24)).alloc (.cells #[.int .i64 2] 3)) := by repeat (first | exact Below.refl _ _ | assumption | (refine bel_trans ?_ (by assumption)) | (with_reducible apply bel_alloc) | (with_reducible apply Below.drew) | apply bel_alloc | apply Below.drew | refine bel_set ?_ (by simp; try omega) _)
  refine wpIn_rangeFunc_ownF rfl (by omega) (gf := 65) (lb := #[.pointer (some ⟨w.heap.size + 1 + 1, 0, none⟩), .pointer (some ⟨w.heap.size + 1 + 1 + 1, 0, none⟩)]) rfl trivial (enters_of Tryz.func65 (by kernel_rfl) rfl)
    (seqK (3 - 1) (by omega) (w.heap.size + 1 + 1) (w.heap.size + 1 + 1 + 1) g p n c hnc hc hsz a hgp _ (by simp) (by simp) (by simp [go_sem]) (by simp [go_sem])) kept_t (kept_b (by simp) (by simp)) (Below.refl _ _) (fun _ => rfl)
    (fun pre W => PJ w.heap.size l n pre W ∧ Below w.heap.size w W)
    (fun c pre W => False)
    (OwnFrom.and (Own.from (PJ_own _ _ _) _) (ownFrom_below (Nat.le_refl _) (by simp; omega)))
    (fun c => fun s A B row hs _ _ => hs.elim)
    ⟨⟨.slice none 0 0, .slice none 0 0, by simp [go_sem], by simp [go_sem], by simp [go_sem], by simp [go_sem], World.ownsRow_nil _ _ _ _, World.ownsRow_nil _ _ _ _, (fun k e => by cases e), by simp⟩, hB0⟩
    (fun y => { tmps := #[.slice a n c, undef, .pointer (some ⟨w.heap.size, 0, none⟩), .pointer (some ⟨w.heap.size + 1, 0, none⟩), .slice (some ⟨g, p + 2 * y.val, none⟩) (wid n y.val) (wid n y.val), undef, .slice a n c, .func (.func 65) #[] #[.pointer (some ⟨w.heap.size + 1 + 1, 0, none⟩), .pointer (some ⟨w.heap.size + 1 + 1 + 1, 0, none⟩)], .slice (some ⟨g, p + 2 * y.val, none⟩) (wid n y.val) (wid n y.val), undef, undef, undef, undef, undef, undef, undef, undef, undef, undef, undef, undef, undef, undef, undef, undef, undef], defers := [] }) ?assign ?body ?done ?stop
  case assign =>
    intro l x W K hK
    gi_wp2
    exact hK
  case body =>
    rintro lk pre y W ⟨⟨v2, v3, c2, f2, c3, f3, O2, O3, hA, hbs⟩, hB⟩ hpre
    have hyl := y.isLt
    unfold chunks at hyl
    obtain rfl := hgp (by omega)
    have hcl : (conds l n pre).length ≤ pre.length := by
      have : ∀ q : List (Fin (chunks n)), (conds l n q).length ≤ q.length := by
        intro q
        induction q with
        | nil => simp [conds]
        | cons x t ih =>
          have h1 : (condAt l x.val).length ≤ 1 := by unfold condAt; split <;> simp
          simp only [conds, List.flatMap_cons, List.length_append, List.length_cons] at ih ⊢
          omega
      exact this pre
    have hvl : (vals l n pre).length ≤ pre.length := by
      have : ∀ q : List (Fin (chunks n)), (vals l n q).length ≤ q.length := by
        intro q
        induction q with
        | nil => simp [vals]
        | cons x t ih =>
          have h1 : (valAt l x.val).length ≤ 1 := by unfold valAt; split <;> simp
          simp only [vals, List.flatMap_cons, List.length_append, List.length_cons] at ih ⊢
          omega
      exact this pre
    have hpl : pre.length < (n + 1) / 2 := hpre
    by_cases h2 : 2 * y.val + 1 < n
    · have hw : wid n y.val = 2 := by unfold wid; omega
      obtain ⟨g1, p1, x0, e1, hx0, hg1, k0⟩ := (HL.out.below hB).at_ (2 * y.val) (by omega)
      cases e1
      obtain ⟨g2, p2, x1, e2, hx1, hg2, k1⟩ := (HL.out.below hB).at_ (2 * y.val + 1) (by omega)
      cases e2
      have hcn : condAt l y.val = [x0] := by
        have := HLn.out
        unfold condAt
        rw [if_pos (by omega), List.getD_eq_getElem?_getD, hx0]; rfl
      have hvn : valAt l y.val = [x1] := by
        have := HLn.out
        unfold valAt
        rw [if_pos (by omega), List.getD_eq_getElem?_getD, hx1]; rfl
      have hcs : conds l n (pre ++ [y]) = conds l n pre ++ [x0] := by simp [conds, hcn]
      have hvs : vals l n (pre ++ [y]) = vals l n pre ++ [x1] := by simp [vals, hvn]
      rw [hw]
      obtain ⟨a2, m2, cp2, w2, hr, hm2, G2⟩ := app_box (w := w) (news := [x0]) (Nat.le_refl _) (by omega) (by omega) (by omega) hbs c2 f2 c3 f3 O2 O3 hA hB ⟨g, p + 2 * y.val, none⟩ 2 (by
        intro j u hj
        match j, hj with | 0, hj => (have := Option.some.inj hj; subst this; exact k0)) (by simp only [List.length_cons, List.length_nil]; omega)
      rw [← hcs] at hm2 G2
      have hr' := Lib.hid hr
      have o2 := G2.o.trans c2
      have fo2 := G2.fo
      have HG := Lib.hid G2
      clear hr
      gi_wp2
      refine region_round (by kernel_rfl) (noDefer_spec (by kernel_rfl)) ?_
      refine wpAnyIn_take (i := 1) (v := ?_) rfl rfl (by kernel_rfl) (by kernel_rfl) (by kernel_rfl) (fun _ _ _ h => h) ⟨Or.inl ⟨by rfl, ?_⟩, fun _ => rfl⟩ ?_
      rotate_left
      · intro w; go_simp; with_reducible rfl
      refine wpAnyIn_take (i := 2) (v := ?_) rfl rfl (by kernel_rfl) (by kernel_rfl) (by kernel_rfl) (fun _ _ _ h => h) ⟨Or.inl ⟨by rfl, ?_⟩, fun _ => rfl⟩ ?_
      rotate_left
      · intro w; go_simp; with_reducible rfl
      refine wpAnyIn_take (i := 3) (v := ?_) rfl rfl (by kernel_rfl) (by kernel_rfl) (by kernel_rfl) (fun _ _ _ h => h) ⟨Or.inl ⟨by rfl, ?_⟩, fun _ => rfl⟩ ?_
      rotate_left
      · intro w; go_simp; with_reducible rfl
      refine wpAnyIn_ready (rs := [0]) (by kernel_rfl) (by simp) ?_
      refine AllReadyIn.cons rfl (fun K hK => ?_) AllReadyIn.nil
      go_simp
      refine hK _ _ ?_; clear hK K
      refine wpAnyIn_ready (rs := [4]) (by kernel_rfl) (by simp) ?_
      refine AllReadyIn.cons rfl (fun K hK => ?_) AllReadyIn.nil
      rw [if_pos (by rfl)]
      refine app_op rfl rfl rfl hr'.out ?_
      refine hK _ _ ?_; clear hK K
      refine wpAnyIn_ready (rs := [5]) (by kernel_rfl) (by simp) ?_
      refine AllReadyIn.cons rfl (fun K hK => ?_) AllReadyIn.nil
      go_simp
      refine hK _ _ ?_; clear hK K
      refine wpAnyIn_done (by kernel_rfl) ?_ _
      obtain ⟨-, -, d2, h2', d3, h3', P2, P3, hA2, HB2, ko3, oth3, hsz3⟩ := HG.out
      clear o2 fo2 hr' HG
      generalize hw3 : w2.setCell ⟨w.heap.size, 0, none⟩ (.slice a2 m2 cp2) = w3 at *
      obtain ⟨g5, p5, x5, e5, hx5, hg5, k5⟩ := (HL.out.below HB2).at_ (2 * y.val + 1) (by omega)
      cases e5
      rw [← Nat.add_assoc] at k5
      obtain rfl : x5 = x1 := Option.some.inj (hx5.symm.trans hx1)
      have hbs3 : w.heap.size + 4 ≤ w3.heap.size := Nat.le_trans hbs hsz3
      have hb5 : Below w.heap.size w (w3.alloc (.cells #[kI x5] 26)) := bel_alloc HB2 _
      obtain ⟨a3, m3, cp3, w5, hr5, hm3, G5⟩ := app_box (w := w) (news := [x5]) (W := w3.alloc (.cells #[kI x5] 26)) (base := w.heap.size + 4) (b := w.heap.size + 1) (b' := w.heap.size) (by omega) (by omega) (by omega) (by omega) (by simp; omega)
        (cell_alloc_l5 _ d3) (frozen_alloc_l5 _ d3 h3') (cell_alloc_l5 _ d2) (frozen_alloc_l5 _ d2 h2') (P3.alloc _) (by have := hm2.out; subst this; exact P2.alloc _) (fun k hk e => hA2 k e hk) hb5 ⟨w3.heap.size, 0, none⟩ 1 (cell_one_new w3 (kI x5) 26) (by simp only [List.length_cons, List.length_nil]; omega)
      rw [← hvs] at hm3 G5
      have d3a := cell_alloc_l5 (.cells #[kI x5] 26) d3
      have o5 := G5.o.trans d3a
      have fo5 := G5.fo
      have HG5 := Lib.hid G5
      have hr5 := Lib.hid (show (Builtin.append_ #[24, 24] 24 #[v3, .slice (some ⟨w3.heap.size, 0, none⟩) 1 1]).run Tryz.prog (w3.drew.alloc (.cells #[kI x5] 26)) = _ from hr5)
      have hPost : Hid (KeepsOthers W (w5.setCell ⟨w.heap.size + 1, 0, none⟩ (.slice a3 m3 cp3)) ∧ Kept (w.heap.size + 1 + 1) (w.heap.size + 1 + 1 + 1) W (w5.setCell ⟨w.heap.size + 1, 0, none⟩ (.slice a3 m3 cp3)) ∧ PJ w.heap.size l n (pre ++ [y]) (w5.setCell ⟨w.heap.size + 1, 0, none⟩ (.slice a3 m3 cp3)) ∧ Below w.heap.size w (w5.setCell ⟨w.heap.size + 1, 0, none⟩ (.slice a3 m3 cp3))) := by
        refine ⟨ko3.trans ((KeepsOthers.alloc _ _).trans G5.ko), ⟨?_, ?_⟩, ⟨_, _, G5.c', G5.f', G5.c, G5.f, ?_, ?_, fun k hk e => G5.ap k e hk, ?_⟩, G5.bel⟩
        · rw [G5.other _ (by omega) (by omega), World.cell?_of_block (heap_alloc_old w3 _ (show w.heap.size + 1 + 1 < w3.heap.size by omega)), oth3 _ (by omega) (by omega)]
        · rw [G5.other _ (by omega) (by omega), World.cell?_of_block (heap_alloc_old w3 _ (show w.heap.size + 1 + 1 + 1 < w3.heap.size by omega)), oth3 _ (by omega) (by omega)]
        · have := hm2.out; subst this; exact G5.r'
        · have := hm3.out; subst this; exact G5.r
        · refine Nat.le_trans ?_ G5.size
          simp; omega
      clear ko3 oth3
      gi_wp2
      refine region_round (by kernel_rfl) (noDefer_spec (by kernel_rfl)) ?_
      refine wpAnyIn_take (i := 1) (v := ?_) rfl rfl (by kernel_rfl) (by kernel_rfl) (by kernel_rfl) (fun _ _ _ h => h) ⟨Or.inl ⟨by rfl, ?_⟩, fun _ => rfl⟩ ?_
      rotate_left
      · intro w; go_simp; with_reducible rfl
      refine wpAnyIn_take (i := 2) (v := ?_) rfl rfl (by kernel_rfl) (by kernel_rfl) (by kernel_rfl) (fun _ _ _ h => h) ⟨Or.inl ⟨by rfl, ?_⟩, fun _ => rfl⟩ ?_
      rotate_left
      · intro w; go_simp; with_reducible rfl
      refine wpAnyIn_take (i := 3) (v := ?_) rfl rfl (by kernel_rfl) (by kernel_rfl) (by kernel_rfl) (fun _ _ _ h => h) ⟨Or.inl ⟨by rfl, ?_⟩, fun _ => rfl⟩ ?_
      rotate_left
      · intro w; go_simp; with_reducible rfl
      refine wpAnyIn_ready (rs := [0, 4]) (by kernel_rfl) (by simp) (AllReadyIn.cons rfl (fun K hK => ?_) (AllReadyIn.cons rfl (fun K hK => ?_) AllReadyIn.nil))
      · go_simp
        refine hK _ _ ?_; clear hK K
        refine wpAnyIn_ready (rs := [4]) (by kernel_rfl) (by simp) (AllReadyIn.cons rfl (fun K hK => ?_) AllReadyIn.nil)
        · go_simp
          refine hK _ _ ?_; clear hK K
          refine wpAnyIn_ready (rs := [5]) (by kernel_rfl) (by simp) (AllReadyIn.cons rfl (fun K hK => ?_) AllReadyIn.nil)
          · go_simp
            refine hK _ _ ?_; clear hK K
            refine wpAnyIn_ready (rs := [6]) (by kernel_rfl) (by simp) (AllReadyIn.cons rfl (fun K hK => ?_) AllReadyIn.nil)
            · rw [if_pos (by rfl)]
              refine app_op rfl rfl rfl hr5.out ?_
              refine hK _ _ ?_; clear hK K
              refine wpAnyIn_ready (rs := [7]) (by kernel_rfl) (by simp) (AllReadyIn.cons rfl (fun K hK => ?_) AllReadyIn.nil)
              · go_simp
                refine hK _ _ ?_; clear hK K
                refine wpAnyIn_done (by kernel_rfl) ?_ _
                gi_wp2
                exact hPost.out
      · go_simp
        refine hK _ _ ?_; clear hK K
        refine wpAnyIn_ready (rs := [0, 5]) (by kernel_rfl) (by simp) (AllReadyIn.cons rfl (fun K hK => ?_) (AllReadyIn.cons rfl (fun K hK => ?_) AllReadyIn.nil))
        · go_simp
          refine hK _ _ ?_; clear hK K
          refine wpAnyIn_ready (rs := [5]) (by kernel_rfl) (by simp) (AllReadyIn.cons rfl (fun K hK => ?_) AllReadyIn.nil)
          · go_simp
            refine hK _ _ ?_; clear hK K
            refine wpAnyIn_ready (rs := [6]) (by kernel_rfl) (by simp) (AllReadyIn.cons rfl (fun K hK => ?_) AllReadyIn.nil)
            · rw [if_pos (by rfl)]
              refine app_op rfl rfl rfl hr5.out ?_
              refine hK _ _ ?_; clear hK K
              refine wpAnyIn_ready (rs := [7]) (by kernel_rfl) (by simp) (AllReadyIn.cons rfl (fun K hK => ?_) AllReadyIn.nil)
              · go_simp
                refine hK _ _ ?_; clear hK K
                refine wpAnyIn_done (by kernel_rfl) ?_ _
                gi_wp2
                exact hPost.out
        · go_simp
          refine hK _ _ ?_; clear hK K
          refine wpAnyIn_ready (rs := [0]) (by kernel_rfl) (by simp) (AllReadyIn.cons rfl (fun K hK => ?_) AllReadyIn.nil)
          · go_simp
            refine hK _ _ ?_; clear hK K
            refine wpAnyIn_ready (rs := [6]) (by kernel_rfl) (by simp) (AllReadyIn.cons rfl (fun K hK => ?_) AllReadyIn.nil)
            · rw [if_pos (by rfl)]
              refine app_op rfl rfl rfl hr5.out ?_
              refine hK _ _ ?_; clear hK K
              refine wpAnyIn_ready (rs := [7]) (by kernel_rfl) (by simp) (AllReadyIn.cons rfl (fun K hK => ?_) AllReadyIn.nil)
              · go_simp
                refine hK _ _ ?_; clear hK K
                refine wpAnyIn_done (by kernel_rfl) ?_ _
                gi_wp2
                exact hPost.out
    · have hw : wid n y.val = 1 := by unfold wid; omega
      obtain ⟨g1, p1, x0, e1, hx0, hg1, k0⟩ := (HL.out.below hB).at_ (2 * y.val) (by omega)
      cases e1
      have hcn : condAt l y.val = [] := by
        have := HLn.out
        unfold condAt
        rw [if_neg (by omega)]
      have hvn : valAt l y.val = [x0] := by
        have := HLn.out
        unfold valAt
        rw [if_neg (by omega), List.getD_eq_getElem?_getD, hx0]; rfl
      have hcs : conds l n (pre ++ [y]) = conds l n pre ++ [] := by simp [conds, hcn]
      have hvs : vals l n (pre ++ [y]) = vals l n pre ++ [x0] := by simp [vals, hvn]
      rw [hw]
      obtain ⟨a2, m2, cp2, w2, hr, hm2, G2⟩ := app_box (w := w) (news := []) (Nat.le_refl _) (by omega) (by omega) (by omega) hbs c2 f2 c3 f3 O2 O3 hA hB ⟨g, p + 2 * y.val, none⟩ 1 (by
        intro j u hj
        simp at hj) (by simp only [List.length_cons, List.length_nil]; omega)
      rw [← hcs] at hm2 G2
      have hr' := Lib.hid hr
      have o2 := G2.o.trans c2
      have fo2 := G2.fo
      have HG := Lib.hid G2
      clear hr
      gi_wp2
      refine region_round (by kernel_rfl) (noDefer_spec (by kernel_rfl)) ?_
      refine wpAnyIn_take (i := 1) (v := ?_) rfl rfl (by kernel_rfl) (by kernel_rfl) (by kernel_rfl) (fun _ _ _ h => h) ⟨Or.inl ⟨by rfl, ?_⟩, fun _ => rfl⟩ ?_
      rotate_left
      · intro w; go_simp; with_reducible rfl
      refine wpAnyIn_take (i := 2) (v := ?_) rfl rfl (by kernel_rfl) (by kernel_rfl) (by kernel_rfl) (fun _ _ _ h => h) ⟨Or.inl ⟨by rfl, ?_⟩, fun _ => rfl⟩ ?_
      rotate_left
      · intro w; go_simp; with_reducible rfl
      refine wpAnyIn_take (i := 3) (v := ?_) rfl rfl (by kernel_rfl) (by kernel_rfl) (by kernel_rfl) (fun _ _ _ h => h) ⟨Or.inl ⟨by rfl, ?_⟩, fun _ => rfl⟩ ?_
      rotate_left
      · intro w; go_simp; with_reducible rfl
      refine wpAnyIn_ready (rs := [0]) (by kernel_rfl) (by simp) ?_
      refine AllReadyIn.cons rfl (fun K hK => ?_) AllReadyIn.nil
      go_simp
      refine hK _ _ ?_; clear hK K
      refine wpAnyIn_ready (rs := [4]) (by kernel_rfl) (by simp) ?_
      refine AllReadyIn.cons rfl (fun K hK => ?_) AllReadyIn.nil
      rw [if_pos (by rfl)]
      refine app_op rfl rfl rfl hr'.out ?_
      refine hK _ _ ?_; clear hK K
      refine wpAnyIn_ready (rs := [5]) (by kernel_rfl) (by simp) ?_
      refine AllReadyIn.cons rfl (fun K hK => ?_) AllReadyIn.nil
      go_simp
      refine hK _ _ ?_; clear hK K
      refine wpAnyIn_done (by kernel_rfl) ?_ _
      obtain ⟨-, -, d2, h2', d3, h3', P2, P3, hA2, HB2, ko3, oth3, hsz3⟩ := HG.out
      clear o2 fo2 hr' HG
      generalize hw3 : w2.setCell ⟨w.heap.size, 0, none⟩ (.slice a2 m2 cp2) = w3 at *
      obtain ⟨g5, p5, x5, e5, hx5, hg5, k5⟩ := (HL.out.below HB2).at_ (2 * y.val) (by omega)
      cases e5
      obtain rfl : x5 = x0 := Option.some.inj (hx5.symm.trans hx0)
      have hbs3 : w.heap.size + 4 ≤ w3.heap.size := Nat.le_trans hbs hsz3
      have hb5 : Below w.heap.size w (w3.alloc (.cells #[kI x5] 26)) := bel_alloc HB2 _
      obtain ⟨a3, m3, cp3, w5, hr5, hm3, G5⟩ := app_box (w := w) (news := [x5]) (W := w3.alloc (.cells #[kI x5] 26)) (base := w.heap.size + 4) (b := w.heap.size + 1) (b' := w.heap.size) (by omega) (by omega) (by omega) (by omega) (by simp; omega)
        (cell_alloc_l5 _ d3) (frozen_alloc_l5 _ d3 h3') (cell_alloc_l5 _ d2) (frozen_alloc_l5 _ d2 h2') (P3.alloc _) (by have := hm2.out; subst this; exact P2.alloc _) (fun k hk e => hA2 k e hk) hb5 ⟨w3.heap.size, 0, none⟩ 1 (cell_one_new w3 (kI x5) 26) (by simp only [List.length_cons, List.length_nil]; omega)
      rw [← hvs] at hm3 G5
      have d3a := cell_alloc_l5 (.cells #[kI x5] 26) d3
      have o5 := G5.o.trans d3a
      have fo5 := G5.fo
      have HG5 := Lib.hid G5
      have hr5 := Lib.hid (show (Builtin.append_ #[24, 24] 24 #[v3, .slice (some ⟨w3.heap.size, 0, none⟩) 1 1]).run Tryz.prog (w3.drew.alloc (.cells #[kI x5] 26)) = _ from hr5)
      have hPost : Hid (KeepsOthers W (w5.setCell ⟨w.heap.size + 1, 0, none⟩ (.slice a3 m3 cp3)) ∧ Kept (w.heap.size + 1 + 1) (w.heap.size + 1 + 1 + 1) W (w5.setCell ⟨w.heap.size + 1, 0, none⟩ (.slice a3 m3 cp3)) ∧ PJ w.heap.size l n (pre ++ [y]) (w5.setCell ⟨w.heap.size + 1, 0, none⟩ (.slice a3 m3 cp3)) ∧ Below w.heap.size w (w5.setCell ⟨w.heap.size + 1, 0, none⟩ (.slice a3 m3 cp3))) := by
        refine ⟨ko3.trans ((KeepsOthers.alloc _ _).trans G5.ko), ⟨?_, ?_⟩, ⟨_, _, G5.c', G5.f', G5.c, G5.f, ?_, ?_, fun k hk e => G5.ap k e hk, ?_⟩, G5.bel⟩
        · rw [G5.other _ (by omega) (by omega), World.cell?_of_block (heap_alloc_old w3 _ (show w.heap.size + 1 + 1 < w3.heap.size by omega)), oth3 _ (by omega) (by omega)]
        · rw [G5.other _ (by omega) (by omega), World.cell?_of_block (heap_alloc_old w3 _ (show w.heap.size + 1 + 1 + 1 < w3.heap.size by omega)), oth3 _ (by omega) (by omega)]
        · have := hm2.out; subst this; exact G5.r'
        · have := hm3.out; subst this; exact G5.r
        · refine Nat.le_trans ?_ G5.size
          simp; omega
      clear ko3 oth3
      gi_wp2
      refine region_round (by kernel_rfl) (noDefer_spec (by kernel_rfl)) ?_
      refine wpAnyIn_take (i := 1) (v := ?_) rfl rfl (by kernel_rfl) (by kernel_rfl) (by kernel_rfl) (fun _ _ _ h => h) ⟨Or.inl ⟨by rfl, ?_⟩, fun _ => rfl⟩ ?_
      rotate_left
      · intro w; go_simp; with_reducible rfl
      refine wpAnyIn_take (i := 2) (v := ?_) rfl rfl (by kernel_rfl) (by kernel_rfl) (by kernel_rfl) (fun _ _ _ h => h) ⟨Or.inl ⟨by rfl, ?_⟩, fun _ => rfl⟩ ?_
      rotate_left
      · intro w; go_simp; with_reducible rfl
      refine wpAnyIn_take (i := 3) (v := ?_) rfl rfl (by kernel_rfl) (by kernel_rfl) (by kernel_rfl) (fun _ _ _ h => h) ⟨Or.inl ⟨by rfl, ?_⟩, fun _ => rfl⟩ ?_
      rotate_left
      · intro w; go_simp; with_reducible rfl
      refine wpAnyIn_ready (rs := [0, 4]) (by kernel_rfl) (by simp) (AllReadyIn.cons rfl (fun K hK => ?_) (AllReadyIn.cons rfl (fun K hK => ?_) AllReadyIn.nil))
      · go_simp
        refine hK _ _ ?_; clear hK K
        refine wpAnyIn_ready (rs := [4]) (by kernel_rfl) (by simp) (AllReadyIn.cons rfl (fun K hK => ?_) AllReadyIn.nil)
        · go_simp
          refine hK _ _ ?_; clear hK K
          refine wpAnyIn_ready (rs := [5]) (by kernel_rfl) (by simp) (AllReadyIn.cons rfl (fun K hK => ?_) AllReadyIn.nil)
          · go_simp
            refine hK _ _ ?_; clear hK K
            refine wpAnyIn_ready (rs := [6]) (by kernel_rfl) (by simp) (AllReadyIn.cons rfl (fun K hK => ?_) AllReadyIn.nil)
            · rw [if_pos (by rfl)]
              refine app_op rfl rfl rfl hr5.out ?_
              refine hK _ _ ?_; clear hK K
              refine wpAnyIn_ready (rs := [7]) (by kernel_rfl) (by simp) (AllReadyIn.cons rfl (fun K hK => ?_) AllReadyIn.nil)
              · go_simp
                refine hK _ _ ?_; clear hK K
                refine wpAnyIn_done (by kernel_rfl) ?_ _
                gi_wp2
                exact hPost.out
      · go_simp
        refine hK _ _ ?_; clear hK K
        refine wpAnyIn_ready (rs := [0, 5]) (by kernel_rfl) (by simp) (AllReadyIn.cons rfl (fun K hK => ?_) (AllReadyIn.cons rfl (fun K hK => ?_) AllReadyIn.nil))
        · go_simp
          refine hK _ _ ?_; clear hK K
          refine wpAnyIn_ready (rs := [5]) (by kernel_rfl) (by simp) (AllReadyIn.cons rfl (fun K hK => ?_) AllReadyIn.nil)
          · go_simp
            refine hK _ _ ?_; clear hK K
            refine wpAnyIn_ready (rs := [6]) (by kernel_rfl) (by simp) (AllReadyIn.cons rfl (fun K hK => ?_) AllReadyIn.nil)
            · rw [if_pos (by rfl)]
              refine app_op rfl rfl rfl hr5.out ?_
              refine hK _ _ ?_; clear hK K
              refine wpAnyIn_ready (rs := [7]) (by kernel_rfl) (by simp) (AllReadyIn.cons rfl (fun K hK => ?_) AllReadyIn.nil)
              · go_simp
                refine hK _ _ ?_; clear hK K
                refine wpAnyIn_done (by kernel_rfl) ?_ _
                gi_wp2
                exact hPost.out
        · go_simp
          refine hK _ _ ?_; clear hK K
          refine wpAnyIn_ready (rs := [0]) (by kernel_rfl) (by simp) (AllReadyIn.cons rfl (fun K hK => ?_) AllReadyIn.nil)
          · go_simp
            refine hK _ _ ?_; clear hK K
            refine wpAnyIn_ready (rs := [6]) (by kernel_rfl) (by simp) (AllReadyIn.cons rfl (fun K hK => ?_) AllReadyIn.nil)
            · rw [if_pos (by rfl)]
              refine app_op rfl rfl rfl hr5.out ?_
              refine hK _ _ ?_; clear hK K
              refine wpAnyIn_ready (rs := [7]) (by kernel_rfl) (by simp) (AllReadyIn.cons rfl (fun K hK => ?_) AllReadyIn.nil)
              · go_simp
                refine hK _ _ ?_; clear hK K
                refine wpAnyIn_done (by kernel_rfl) ?_ _
                gi_wp2
                exact hPost.out
  case done =>
    rintro D xs W hD rfl ⟨⟨v2, v3, c2, f2, c3, f3, O2, O3, hA, hbs⟩, hB⟩ hK
    have hpp := parts_at l
    have HLn2 := HLn.out
    have e1 : conds l n (List.finRange (chunks n)) = (parts l).1 := by
      rw [HLn2]; unfold conds; rw [fin_range, hpp.1]
    have e2 : vals l n (List.finRange (chunks n)) = (parts l).2 := by
      rw [HLn2]; unfold vals; rw [fin_range, hpp.2]
    rw [e1] at O2
    rw [e2] at O3
    obtain ⟨m2, hm2⟩ : ∃ m, Hid ((parts l).1.length = m) := ⟨_, rfl⟩
    obtain ⟨m3, hm3⟩ : ∃ m, Hid ((parts l).2.length = m) := ⟨_, rfl⟩
    rw [hm2.out] at O2
    rw [hm3.out] at O3
    obtain ⟨a2, cp2, rfl⟩ := own_slice O2
    obtain ⟨a3, cp3, rfl⟩ := own_slice O3
    have hK' : (((W.setCell ⟨w.heap.size, 0, none⟩ (.slice a2 m2 cp2)).setCell ⟨w.heap.size + 1, 0, none⟩ (.slice a3 m3 cp3)).drew).heap[D]? = some (.deferred (some [])) := ((KeepsOthers.setCell W ⟨w.heap.size, 0, none⟩ (.slice a2 m2 cp2)).trans ((KeepsOthers.setCell _ ⟨w.heap.size + 1, 0, none⟩ (.slice a3 m3 cp3)).trans (KeepsOthers.drew _))).same D _ hK rfl
    have hg5 := grownBy_putObj' (((W.setCell ⟨w.heap.size, 0, none⟩ (.slice a2 m2 cp2)).setCell ⟨w.heap.size + 1, 0, none⟩ (.slice a3 m3 cp3)).drew) D (.deferred none)
    have hr5 : ∀ r, some D = some r → ∃ o : Obj, (((W.setCell ⟨w.heap.size, 0, none⟩ (.slice a2 m2 cp2)).setCell ⟨w.heap.size + 1, 0, none⟩ (.slice a3 m3 cp3)).drew).heap[r]? = some o ∧ o.isCells = false := fun r e => by cases e; exact ⟨_, hK', rfl⟩
    have q2 := cell_kept (W := ((W.setCell ⟨w.heap.size, 0, none⟩ (.slice a2 m2 cp2)).setCell ⟨w.heap.size + 1, 0, none⟩ (.slice a3 m3 cp3)).drew) (a := ⟨w.heap.size, 0, none⟩) (v := .slice a2 m2 cp2) (by
      show World.cell? ((W.setCell ⟨w.heap.size, 0, none⟩ (.slice a2 m2 cp2)).setCell ⟨w.heap.size + 1, 0, none⟩ (.slice a3 m3 cp3)) _ = _
      rw [World.cell?_setCell_other _ _ _ _ (fun e => by injection e with e1 e2; omega)]
      exact World.cell?_setCell_same' _ _ _ (by rw [c2]; rfl)) hg5 hr5
    have q3 := cell_kept (W := ((W.setCell ⟨w.heap.size, 0, none⟩ (.slice a2 m2 cp2)).setCell ⟨w.heap.size + 1, 0, none⟩ (.slice a3 m3 cp3)).drew) (a := ⟨w.heap.size + 1, 0, none⟩) (v := .slice a3 m3 cp3) (by
      show World.cell? ((W.setCell ⟨w.heap.size, 0, none⟩ (.slice a2 m2 cp2)).setCell ⟨w.heap.size + 1, 0, none⟩ (.slice a3 m3 cp3)) _ = _
      exact World.cell?_setCell_same' _ _ _ (by rw [World.cell?_setCell_other _ _ _ _ (fun e => by injection e with e1 e2; omega), c3]; rfl)) hg5 hr5
    have hPost : Hid ((∃ u2 u3, Ending.returned (.tuple #[.slice a2 m2 cp2, .slice a3 m3 cp3]) = .returned (.tuple #[u2, u3]) ∧ KindsV ((((W.setCell ⟨w.heap.size, 0, none⟩ (.slice a2 m2 cp2)).setCell ⟨w.heap.size + 1, 0, none⟩ (.slice a3 m3 cp3)).drew).putObj D (.deferred none)) u2 (parts l).1 ∧ KindsV ((((W.setCell ⟨w.heap.size, 0, none⟩ (.slice a2 m2 cp2)).setCell ⟨w.heap.size + 1, 0, none⟩ (.slice a3 m3 cp3)).drew).putObj D (.deferred none)) u3 (parts l).2) ∧ Below w.heap.size w ((((W.setCell ⟨w.heap.size, 0, none⟩ (.slice a2 m2 cp2)).setCell ⟨w.heap.size + 1, 0, none⟩ (.slice a3 m3 cp3)).drew).putObj D (.deferred none))) := by
      refine ⟨⟨_, _, rfl, ?_, ?_⟩, ((bel_set (bel_set hB (by simp) _) (by simp) _).drew).trans (belowK_b (w := w) (Nat.le_refl _) _ D _ _ (by simp at hD; omega) hK' rfl rfl)⟩
      · have := hm2.out; subst this
        exact own_kinds (own_cells (ownsRow_setCell_below (ownsRow_setCell_below O2 (by show w.heap.size < _; omega) _) (by show w.heap.size + 1 < _; omega) _).drew hg5 hr5)
      · have := hm3.out; subst this
        exact own_kinds (own_cells (ownsRow_setCell_below (ownsRow_setCell_below O3 (by show w.heap.size < _; omega) _) (by show w.heap.size + 1 < _; omega) _).drew hg5 hr5)
    clear O2 O3 hA e1 e2 hpp HLn2 hg5 hr5
    gi_wp2
    refine wpIn_region_any (by kernel_rfl) ?_
    refine wpAnyIn_ready (rs := [0, 1]) (by kernel_rfl) (by simp) (AllReadyIn.cons rfl (fun K hK => ?_) (AllReadyIn.cons rfl (fun K hK => ?_) AllReadyIn.nil))
    · go_simp
      refine hK _ _ ?_; clear hK K
      refine wpAnyIn_ready (rs := [1, 2]) (by kernel_rfl) (by simp) (AllReadyIn.cons rfl (fun K hK => ?_) (AllReadyIn.cons rfl (fun K hK => ?_) AllReadyIn.nil))
      · go_simp
        refine hK _ _ ?_; clear hK K
        refine wpAnyIn_ready (rs := [2]) (by kernel_rfl) (by simp) (AllReadyIn.cons rfl (fun K hK => ?_) AllReadyIn.nil)
        · go_simp
          refine hK _ _ ?_; clear hK K
          refine wpAnyIn_ready (rs := [3]) (by kernel_rfl) (by simp) (AllReadyIn.cons rfl (fun K hK => ?_) AllReadyIn.nil)
          · go_simp
            refine hK _ _ ?_; clear hK K
            refine wpAnyIn_done (by kernel_rfl) ?_ _
            gi_wp2
            refine ⟨by simp, .inl ⟨_, _, rfl, run_takeDeferred hK', ?_⟩⟩
            refine ⟨.tuple #[.slice a2 m2 cp2, .slice a3 m3 cp3], ?_, hPost.out⟩
            simp [results, Tryz.f25, go_sem, q2, q3]
      · go_simp
        refine hK _ _ ?_; clear hK K
        refine wpAnyIn_ready (rs := [1]) (by kernel_rfl) (by simp) (AllReadyIn.cons rfl (fun K hK => ?_) AllReadyIn.nil)
        · go_simp
          refine hK _ _ ?_; clear hK K
          refine wpAnyIn_ready (rs := [3]) (by kernel_rfl) (by simp) (AllReadyIn.cons rfl (fun K hK => ?_) AllReadyIn.nil)
          · go_simp
            refine hK _ _ ?_; clear hK K
            refine wpAnyIn_done (by kernel_rfl) ?_ _
            gi_wp2
            refine ⟨by simp, .inl ⟨_, _, rfl, run_takeDeferred hK', ?_⟩⟩
            refine ⟨.tuple #[.slice a2 m2 cp2, .slice a3 m3 cp3], ?_, hPost.out⟩
            simp [results, Tryz.f25, go_sem, q2, q3]
    · go_simp
      refine hK _ _ ?_; clear hK K
      refine wpAnyIn_ready (rs := [0]) (by kernel_rfl) (by simp) (AllReadyIn.cons rfl (fun K hK => ?_) AllReadyIn.nil)
      · go_simp
        refine hK _ _ ?_; clear hK K
        refine wpAnyIn_ready (rs := [2]) (by kernel_rfl) (by simp) (AllReadyIn.cons rfl (fun K hK => ?_) AllReadyIn.nil)
        · go_simp
          refine hK _ _ ?_; clear hK K
          refine wpAnyIn_ready (rs := [3]) (by kernel_rfl) (by simp) (AllReadyIn.cons rfl (fun K hK => ?_) AllReadyIn.nil)
          · go_simp
            refine hK _ _ ?_; clear hK K
            refine wpAnyIn_done (by kernel_rfl) ?_ _
            gi_wp2
            refine ⟨by simp, .inl ⟨_, _, rfl, run_takeDeferred hK', ?_⟩⟩
            refine ⟨.tuple #[.slice a2 m2 cp2, .slice a3 m3 cp3], ?_, hPost.out⟩
            simp [results, Tryz.f25, go_sem, q2, q3]
  case stop =>
    rintro D c pre W hD _ hs
    exact hs.elim
end Go.Proofs.YtdbhencjomnjhaaGreatDoor.K
namespace Go.Proofs.YtdbhencjomnjhaaGreatDoor.K
open Go.ChangeShapes Go.WideShapes Go.ChangeAt Go.RowKit Go.Proofs.YtdbhencjomnjhaaGreatDoor.V
/-- A signature and whether there is one, as the walk carries them. -/
def sgV (op : Int) : Value := .tuple #[.agg #[.int .i64 (sg op).1, .int .i64 (sg op).2.1, .int .u8 (sg op).2.2.1, .int .u8 (sg op).2.2.2], .bool (has op)]

theorem sig_4 (w : World) : Ret 22 #[.int .u8 4] w (sgV 4) := by
  go_enter Tryz.func22, Tryz.ntmps22
  go_wp2
  exact bodyPost_ret (v := .tuple #[.agg #[.int .i64 1, .int .i64 1, .int .u8 1, .int .u8 1], .bool true]) (by simp [results, Tryz.results22, go_sem, *]) rfl ⟨rfl, by repeat (first | exact Below.refl _ _ | assumption | (refine bel_trans ?_ (by assumption)) | (with_reducible apply bel_alloc) | (with_reducible apply Below.drew) | apply bel_alloc | apply Below.drew | refine bel_set ?_ (by simp; try omega) _)⟩
theorem sig_5 (w : World) : Ret 22 #[.int .u8 5] w (sgV 5) := by
  go_enter Tryz.func22, Tryz.ntmps22
  go_wp2
  exact bodyPost_ret (v := .tuple #[.agg #[.int .i64 2, .int .i64 2, .int .u8 1, .int .u8 1], .bool true]) (by simp [results, Tryz.results22, go_sem, *]) rfl ⟨rfl, by repeat (first | exact Below.refl _ _ | assumption | (refine bel_trans ?_ (by assumption)) | (with_reducible apply bel_alloc) | (with_reducible apply Below.drew) | apply bel_alloc | apply Below.drew | refine bel_set ?_ (by simp; try omega) _)⟩
theorem sig_6 (w : World) : Ret 22 #[.int .u8 6] w (sgV 6) := by
  go_enter Tryz.func22, Tryz.ntmps22
  go_wp2
  exact bodyPost_ret (v := .tuple #[.agg #[.int .i64 2, .int .i64 2, .int .u8 1, .int .u8 1], .bool true]) (by simp [results, Tryz.results22, go_sem, *]) rfl ⟨rfl, by repeat (first | exact Below.refl _ _ | assumption | (refine bel_trans ?_ (by assumption)) | (with_reducible apply bel_alloc) | (with_reducible apply Below.drew) | apply bel_alloc | apply Below.drew | refine bel_set ?_ (by simp; try omega) _)⟩
theorem sig_7 (w : World) : Ret 22 #[.int .u8 7] w (sgV 7) := by
  go_enter Tryz.func22, Tryz.ntmps22
  go_wp2
  exact bodyPost_ret (v := .tuple #[.agg #[.int .i64 2, .int .i64 2, .int .u8 1, .int .u8 1], .bool true]) (by simp [results, Tryz.results22, go_sem, *]) rfl ⟨rfl, by repeat (first | exact Below.refl _ _ | assumption | (refine bel_trans ?_ (by assumption)) | (with_reducible apply bel_alloc) | (with_reducible apply Below.drew) | apply bel_alloc | apply Below.drew | refine bel_set ?_ (by simp; try omega) _)⟩
theorem sig_8 (w : World) : Ret 22 #[.int .u8 8] w (sgV 8) := by
  go_enter Tryz.func22, Tryz.ntmps22
  go_wp2
  exact bodyPost_ret (v := .tuple #[.agg #[.int .i64 2, .int .i64 2, .int .u8 1, .int .u8 1], .bool true]) (by simp [results, Tryz.results22, go_sem, *]) rfl ⟨rfl, by repeat (first | exact Below.refl _ _ | assumption | (refine bel_trans ?_ (by assumption)) | (with_reducible apply bel_alloc) | (with_reducible apply Below.drew) | apply bel_alloc | apply Below.drew | refine bel_set ?_ (by simp; try omega) _)⟩
theorem sig_9 (w : World) : Ret 22 #[.int .u8 9] w (sgV 9) := by
  go_enter Tryz.func22, Tryz.ntmps22
  go_wp2
  exact bodyPost_ret (v := .tuple #[.agg #[.int .i64 2, .int .i64 2, .int .u8 1, .int .u8 1], .bool true]) (by simp [results, Tryz.results22, go_sem, *]) rfl ⟨rfl, by repeat (first | exact Below.refl _ _ | assumption | (refine bel_trans ?_ (by assumption)) | (with_reducible apply bel_alloc) | (with_reducible apply Below.drew) | apply bel_alloc | apply Below.drew | refine bel_set ?_ (by simp; try omega) _)⟩
theorem sig_10 (w : World) : Ret 22 #[.int .u8 10] w (sgV 10) := by
  go_enter Tryz.func22, Tryz.ntmps22
  go_wp2
  exact bodyPost_ret (v := .tuple #[.agg #[.int .i64 2, .int .i64 2, .int .u8 2, .int .u8 2], .bool true]) (by simp [results, Tryz.results22, go_sem, *]) rfl ⟨rfl, by repeat (first | exact Below.refl _ _ | assumption | (refine bel_trans ?_ (by assumption)) | (with_reducible apply bel_alloc) | (with_reducible apply Below.drew) | apply bel_alloc | apply Below.drew | refine bel_set ?_ (by simp; try omega) _)⟩
theorem sig_11 (w : World) : Ret 22 #[.int .u8 11] w (sgV 11) := by
  go_enter Tryz.func22, Tryz.ntmps22
  go_wp2
  exact bodyPost_ret (v := .tuple #[.agg #[.int .i64 1, .int .i64 1, .int .u8 2, .int .u8 1], .bool true]) (by simp [results, Tryz.results22, go_sem, *]) rfl ⟨rfl, by repeat (first | exact Below.refl _ _ | assumption | (refine bel_trans ?_ (by assumption)) | (with_reducible apply bel_alloc) | (with_reducible apply Below.drew) | apply bel_alloc | apply Below.drew | refine bel_set ?_ (by simp; try omega) _)⟩
theorem sig_12 (w : World) : Ret 22 #[.int .u8 12] w (sgV 12) := by
  go_enter Tryz.func22, Tryz.ntmps22
  go_wp2
  exact bodyPost_ret (v := .tuple #[.agg #[.int .i64 2, .int .i64 2, .int .u8 0, .int .u8 3], .bool true]) (by simp [results, Tryz.results22, go_sem, *]) rfl ⟨rfl, by repeat (first | exact Below.refl _ _ | assumption | (refine bel_trans ?_ (by assumption)) | (with_reducible apply bel_alloc) | (with_reducible apply Below.drew) | apply bel_alloc | apply Below.drew | refine bel_set ?_ (by simp; try omega) _)⟩
theorem sig_13 (w : World) : Ret 22 #[.int .u8 13] w (sgV 13) := by
  go_enter Tryz.func22, Tryz.ntmps22
  go_wp2
  exact bodyPost_ret (v := .tuple #[.agg #[.int .i64 2, .int .i64 2, .int .u8 0, .int .u8 3], .bool true]) (by simp [results, Tryz.results22, go_sem, *]) rfl ⟨rfl, by repeat (first | exact Below.refl _ _ | assumption | (refine bel_trans ?_ (by assumption)) | (with_reducible apply bel_alloc) | (with_reducible apply Below.drew) | apply bel_alloc | apply Below.drew | refine bel_set ?_ (by simp; try omega) _)⟩
theorem sig_14 (w : World) : Ret 22 #[.int .u8 14] w (sgV 14) := by
  go_enter Tryz.func22, Tryz.ntmps22
  go_wp2
  exact bodyPost_ret (v := .tuple #[.agg #[.int .i64 2, .int .i64 2, .int .u8 0, .int .u8 3], .bool true]) (by simp [results, Tryz.results22, go_sem, *]) rfl ⟨rfl, by repeat (first | exact Below.refl _ _ | assumption | (refine bel_trans ?_ (by assumption)) | (with_reducible apply bel_alloc) | (with_reducible apply Below.drew) | apply bel_alloc | apply Below.drew | refine bel_set ?_ (by simp; try omega) _)⟩
theorem sig_15 (w : World) : Ret 22 #[.int .u8 15] w (sgV 15) := by
  go_enter Tryz.func22, Tryz.ntmps22
  go_wp2
  exact bodyPost_ret (v := .tuple #[.agg #[.int .i64 2, .int .i64 2, .int .u8 0, .int .u8 3], .bool true]) (by simp [results, Tryz.results22, go_sem, *]) rfl ⟨rfl, by repeat (first | exact Below.refl _ _ | assumption | (refine bel_trans ?_ (by assumption)) | (with_reducible apply bel_alloc) | (with_reducible apply Below.drew) | apply bel_alloc | apply Below.drew | refine bel_set ?_ (by simp; try omega) _)⟩
theorem sig_16 (w : World) : Ret 22 #[.int .u8 16] w (sgV 16) := by
  go_enter Tryz.func22, Tryz.ntmps22
  go_wp2
  exact bodyPost_ret (v := .tuple #[.agg #[.int .i64 2, .int .i64 2, .int .u8 0, .int .u8 3], .bool true]) (by simp [results, Tryz.results22, go_sem, *]) rfl ⟨rfl, by repeat (first | exact Below.refl _ _ | assumption | (refine bel_trans ?_ (by assumption)) | (with_reducible apply bel_alloc) | (with_reducible apply Below.drew) | apply bel_alloc | apply Below.drew | refine bel_set ?_ (by simp; try omega) _)⟩
theorem sig_17 (w : World) : Ret 22 #[.int .u8 17] w (sgV 17) := by
  go_enter Tryz.func22, Tryz.ntmps22
  go_wp2
  exact bodyPost_ret (v := .tuple #[.agg #[.int .i64 2, .int .i64 2, .int .u8 0, .int .u8 3], .bool true]) (by simp [results, Tryz.results22, go_sem, *]) rfl ⟨rfl, by repeat (first | exact Below.refl _ _ | assumption | (refine bel_trans ?_ (by assumption)) | (with_reducible apply bel_alloc) | (with_reducible apply Below.drew) | apply bel_alloc | apply Below.drew | refine bel_set ?_ (by simp; try omega) _)⟩
theorem sig_18 (w : World) : Ret 22 #[.int .u8 18] w (sgV 18) := by
  go_enter Tryz.func22, Tryz.ntmps22
  go_wp2
  exact bodyPost_ret (v := .tuple #[.agg #[.int .i64 2, .int .i64 2, .int .u8 0, .int .u8 3], .bool true]) (by simp [results, Tryz.results22, go_sem, *]) rfl ⟨rfl, by repeat (first | exact Below.refl _ _ | assumption | (refine bel_trans ?_ (by assumption)) | (with_reducible apply bel_alloc) | (with_reducible apply Below.drew) | apply bel_alloc | apply Below.drew | refine bel_set ?_ (by simp; try omega) _)⟩
theorem sig_19 (w : World) : Ret 22 #[.int .u8 19] w (sgV 19) := by
  go_enter Tryz.func22, Tryz.ntmps22
  go_wp2
  exact bodyPost_ret (v := .tuple #[.agg #[.int .i64 2, .int .i64 2, .int .u8 2, .int .u8 3], .bool true]) (by simp [results, Tryz.results22, go_sem, *]) rfl ⟨rfl, by repeat (first | exact Below.refl _ _ | assumption | (refine bel_trans ?_ (by assumption)) | (with_reducible apply bel_alloc) | (with_reducible apply Below.drew) | apply bel_alloc | apply Below.drew | refine bel_set ?_ (by simp; try omega) _)⟩
theorem sig_20 (w : World) : Ret 22 #[.int .u8 20] w (sgV 20) := by
  go_enter Tryz.func22, Tryz.ntmps22
  go_wp2
  exact bodyPost_ret (v := .tuple #[.agg #[.int .i64 1, .int .i64 1, .int .u8 0, .int .u8 3], .bool true]) (by simp [results, Tryz.results22, go_sem, *]) rfl ⟨rfl, by repeat (first | exact Below.refl _ _ | assumption | (refine bel_trans ?_ (by assumption)) | (with_reducible apply bel_alloc) | (with_reducible apply Below.drew) | apply bel_alloc | apply Below.drew | refine bel_set ?_ (by simp; try omega) _)⟩
theorem sig_21 (w : World) : Ret 22 #[.int .u8 21] w (sgV 21) := by
  go_enter Tryz.func22, Tryz.ntmps22
  go_wp2
  exact bodyPost_ret (v := .tuple #[.agg #[.int .i64 1, .int .i64 1, .int .u8 3, .int .u8 3], .bool true]) (by simp [results, Tryz.results22, go_sem, *]) rfl ⟨rfl, by repeat (first | exact Below.refl _ _ | assumption | (refine bel_trans ?_ (by assumption)) | (with_reducible apply bel_alloc) | (with_reducible apply Below.drew) | apply bel_alloc | apply Below.drew | refine bel_set ?_ (by simp; try omega) _)⟩
theorem sig_22 (w : World) : Ret 22 #[.int .u8 22] w (sgV 22) := by
  go_enter Tryz.func22, Tryz.ntmps22
  go_wp2
  exact bodyPost_ret (v := .tuple #[.agg #[.int .i64 1, .int .i64 1, .int .u8 3, .int .u8 3], .bool true]) (by simp [results, Tryz.results22, go_sem, *]) rfl ⟨rfl, by repeat (first | exact Below.refl _ _ | assumption | (refine bel_trans ?_ (by assumption)) | (with_reducible apply bel_alloc) | (with_reducible apply Below.drew) | apply bel_alloc | apply Below.drew | refine bel_set ?_ (by simp; try omega) _)⟩
theorem sig_23 (w : World) : Ret 22 #[.int .u8 23] w (sgV 23) := by
  go_enter Tryz.func22, Tryz.ntmps22
  go_wp2
  exact bodyPost_ret (v := .tuple #[.agg #[.int .i64 0, .int .i64 9223372036854775807, .int .u8 3, .int .u8 3], .bool true]) (by simp [results, Tryz.results22, go_sem, *]) rfl ⟨rfl, by repeat (first | exact Below.refl _ _ | assumption | (refine bel_trans ?_ (by assumption)) | (with_reducible apply bel_alloc) | (with_reducible apply Below.drew) | apply bel_alloc | apply Below.drew | refine bel_set ?_ (by simp; try omega) _)⟩
theorem sig_24 (w : World) : Ret 22 #[.int .u8 24] w (sgV 24) := by
  go_enter Tryz.func22, Tryz.ntmps22
  go_wp2
  exact bodyPost_ret (v := .tuple #[.agg #[.int .i64 0, .int .i64 9223372036854775807, .int .u8 3, .int .u8 3], .bool true]) (by simp [results, Tryz.results22, go_sem, *]) rfl ⟨rfl, by repeat (first | exact Below.refl _ _ | assumption | (refine bel_trans ?_ (by assumption)) | (with_reducible apply bel_alloc) | (with_reducible apply Below.drew) | apply bel_alloc | apply Below.drew | refine bel_set ?_ (by simp; try omega) _)⟩
theorem sig_25 (w : World) : Ret 22 #[.int .u8 25] w (sgV 25) := by
  go_enter Tryz.func22, Tryz.ntmps22
  go_wp2
  exact bodyPost_ret (v := .tuple #[.agg #[.int .i64 2, .int .i64 9223372036854775807, .int .u8 0, .int .u8 0], .bool true]) (by simp [results, Tryz.results22, go_sem, *]) rfl ⟨rfl, by repeat (first | exact Below.refl _ _ | assumption | (refine bel_trans ?_ (by assumption)) | (with_reducible apply bel_alloc) | (with_reducible apply Below.drew) | apply bel_alloc | apply Below.drew | refine bel_set ?_ (by simp; try omega) _)⟩
theorem sig_26 (w : World) : Ret 22 #[.int .u8 26] w (sgV 26) := by
  go_enter Tryz.func22, Tryz.ntmps22
  go_wp2
  exact bodyPost_ret (v := .tuple #[.agg #[.int .i64 1, .int .i64 9223372036854775807, .int .u8 0, .int .u8 0], .bool true]) (by simp [results, Tryz.results22, go_sem, *]) rfl ⟨rfl, by repeat (first | exact Below.refl _ _ | assumption | (refine bel_trans ?_ (by assumption)) | (with_reducible apply bel_alloc) | (with_reducible apply Below.drew) | apply bel_alloc | apply Below.drew | refine bel_set ?_ (by simp; try omega) _)⟩
theorem sig_none (op : Int) (h : ¬ (4 ≤ op ∧ op ≤ 26)) (w : World) : Ret 22 #[.int .u8 op] w (sgV op) := by
  have h4 : (op == 4) = false := by simp; omega
  have h5 : (op == 5) = false := by simp; omega
  have h6 : (op == 6) = false := by simp; omega
  have h7 : (op == 7) = false := by simp; omega
  have h8 : (op == 8) = false := by simp; omega
  have h9 : (op == 9) = false := by simp; omega
  have h10 : (op == 10) = false := by simp; omega
  have h11 : (op == 11) = false := by simp; omega
  have h12 : (op == 12) = false := by simp; omega
  have h13 : (op == 13) = false := by simp; omega
  have h14 : (op == 14) = false := by simp; omega
  have h15 : (op == 15) = false := by simp; omega
  have h16 : (op == 16) = false := by simp; omega
  have h17 : (op == 17) = false := by simp; omega
  have h18 : (op == 18) = false := by simp; omega
  have h19 : (op == 19) = false := by simp; omega
  have h20 : (op == 20) = false := by simp; omega
  have h21 : (op == 21) = false := by simp; omega
  have h22 : (op == 22) = false := by simp; omega
  have h23 : (op == 23) = false := by simp; omega
  have h24 : (op == 24) = false := by simp; omega
  have h25 : (op == 25) = false := by simp; omega
  have h26 : (op == 26) = false := by simp; omega
  have hv : Hid (sgV op = .tuple #[.agg #[.int .i64 0, .int .i64 0, .int .u8 0, .int .u8 0], .bool false]) := by
    show _ = _
    have e : sg op = (0, 0, 0, 0) := by unfold sg; repeat (rw [if_neg (by omega)])
    have e2 : has op = false := by simp [has, h]
    unfold sgV; rw [e, e2]
  clear h
  go_enter Tryz.func22, Tryz.ntmps22
  go_wp2
  exact bodyPost_ret (v := .tuple #[.agg #[.int .i64 0, .int .i64 0, .int .u8 0, .int .u8 0], .bool false]) (by simp [results, Tryz.results22, go_sem, *]) rfl ⟨by rw [hv.out], by repeat (first | exact Below.refl _ _ | assumption | (refine bel_trans ?_ (by assumption)) | (with_reducible apply bel_alloc) | (with_reducible apply Below.drew) | apply bel_alloc | apply Below.drew | refine bel_set ?_ (by simp; try omega) _)⟩
theorem c_sig (op : Int) (w : World) : Ret 22 #[.int .u8 op] w (sgV op) := by
  by_cases h : 4 ≤ op ∧ op ≤ 26
  · have : op = 4 ∨ op = 5 ∨ op = 6 ∨ op = 7 ∨ op = 8 ∨ op = 9 ∨ op = 10 ∨ op = 11 ∨ op = 12 ∨ op = 13 ∨ op = 14 ∨ op = 15 ∨ op = 16 ∨ op = 17 ∨ op = 18 ∨ op = 19 ∨ op = 20 ∨ op = 21 ∨ op = 22 ∨ op = 23 ∨ op = 24 ∨ op = 25 ∨ op = 26 := by omega
    rcases this with rfl | rfl | rfl | rfl | rfl | rfl | rfl | rfl | rfl | rfl | rfl | rfl | rfl | rfl | rfl | rfl | rfl | rfl | rfl | rfl | rfl | rfl | rfl
    · exact sig_4 w
    · exact sig_5 w
    · exact sig_6 w
    · exact sig_7 w
    · exact sig_8 w
    · exact sig_9 w
    · exact sig_10 w
    · exact sig_11 w
    · exact sig_12 w
    · exact sig_13 w
    · exact sig_14 w
    · exact sig_15 w
    · exact sig_16 w
    · exact sig_17 w
    · exact sig_18 w
    · exact sig_19 w
    · exact sig_20 w
    · exact sig_21 w
    · exact sig_22 w
    · exact sig_23 w
    · exact sig_24 w
    · exact sig_25 w
    · exact sig_26 w
  · exact sig_none op h w
end Go.Proofs.YtdbhencjomnjhaaGreatDoor.K
