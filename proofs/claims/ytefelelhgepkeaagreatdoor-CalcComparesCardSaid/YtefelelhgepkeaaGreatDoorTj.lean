/- Values as arguments; the state of the law about IN: two rows of one's own, and the rows' own blocks. -/
import Derived.Test.YtefelelhgepkeaaGreatDoorSe
import Derived.Test.YtefelelhgepkeaaGreatDoorTi
namespace Go.Proofs.YtefelelhgepkeaaGreatDoor.T
open Go.ChangeShapes Go.WideShapes Go.ChangeAt Go.RowKit Go.Joins Go.Proofs.YtefelelhgepkeaaGreatDoor.V Go.Proofs.YtefelelhgepkeaaGreatDoor.K Go.Proofs.YtefelelhgepkeaaGreatDoor.KD Go.Proofs.YtefelelhgepkeaaGreatDoor.S
set_option maxRecDepth 100000
theorem open_vals {H : Type} {enc : TypeId × Value → H} {W : World} {r : Reach} {b0 base : Nat} {sp : Nat → Bool} {held : Bool} {v : Value} {d : DataW H} {p : List MemPlace}
    (hv : Value.okWide Tryz.prog W r b0 53 v) (h : DataW.Trod enc Tryz.prog W base sp held 53 v d p) :
    ∃ (pa : Option Addr) (n ca : Nat) (l : List Vl), v = .slice pa n ca ∧ Vals W pa n l ∧ n ≤ Rows.uptoBulk d := by
  obtain ⟨pa, l, ca, rfl⟩ := okWide_slice Tryz.underlying53 hv
  obtain ⟨fuel, hf⟩ := h
  rcases Go.Deep.open_slice Tryz.underlying53 hf with ⟨h0, _⟩ | ⟨a, len, cap, m, n, D, Pl, hcs, _, hl, hm, hmm, hx0, hx⟩
  · have e : Value.slice pa l ca = .slice none 0 0 := by simpa [Value.cells] using h0
    obtain ⟨rfl, rfl, rfl⟩ : pa = none ∧ l = 0 ∧ ca = 0 := by simpa using e
    exact ⟨none, 0, 0, [], rfl, ⟨rfl, fun k hk => absurd hk (Nat.not_lt_zero _)⟩, by omega⟩
  · have e : Value.slice pa l ca = .slice (some a) len cap := by simpa [Value.cells] using hcs
    obtain ⟨rfl, rfl, rfl⟩ : pa = some a ∧ l = len ∧ ca = cap := by simpa using e
    have hlm : l ≤ m := by rw [hmm]; split <;> omega
    have each : ∀ i, i < l → ∃ q : Vl, W.cell? (a.add (i * 3)) = some (.int .u8 q.1) ∧ W.cell? (a.add (i * 3 + 1)) = some (.int .i64 q.2.1) ∧ W.cell? (a.add (i * 3 + 2)) = some (.string q.2.2) := by
      intro i hi
      obtain ⟨cs', h1, h2⟩ := hx i (by omega)
      rw [cellsVal] at h1
      obtain ⟨_, hlen, hcell⟩ := World.cells?_some h1
      obtain ⟨y0, y1, y2, k, hxy, _, u0, u1, u2⟩ := Go.Deep.trod_struct3 Tryz.underlying32 h2
      match cs', hlen with
      | [v0, v1, v2], _ =>
        simp only [cellsKn, cellsI64, cellsStr, List.drop, List.take] at u0 u1 u2
        obtain ⟨q0, e0, _, w0⟩ := DataW.trod_int Tryz.underlying24 u0
        obtain ⟨q1, e1, _, _⟩ := DataW.trod_int Tryz.underlying2 u1
        obtain ⟨q2, e2, _, w2⟩ := DataW.trod_string Tryz.underlying9 u2
        simp only [List.cons.injEq, and_true] at e0 e1 e2
        subst e0; subst e1; subst e2
        have c0 := hcell 0 (by omega)
        have c1 := hcell 1 (by omega)
        have c2 := hcell 2 (by omega)
        rw [Go.Deep.add_add] at c0 c1 c2
        exact ⟨(q0, q1, q2), by simpa using c0, by simpa using c1, by simpa using c2⟩
    obtain ⟨q, hq⟩ := Go.Deep.choose_lt each
    obtain ⟨B, O, spot⟩ := a
    have hs : ∀ i, i < l → spot = none := fun i hi => by
      have h := World.cell?_spot (hq 0 (by omega)).1
      simpa [Addr.add] using h
    refine ⟨_, l, ca, (List.range l).map q, rfl, ⟨by simp, fun i hi => ?_⟩, ?_⟩
    · have e := hs i hi
      subst e
      obtain ⟨c0, c1, c2⟩ := hq i hi
      rw [Addr.add_lit] at c0 c1 c2
      refine ⟨B, O, q i, rfl, by simp [hi], World.block_lt_of_cell? _ _ c0, c0, ?_, ?_⟩
      · rw [Nat.add_assoc]; exact c1
      · rw [Nat.add_assoc]; exact c2
    · simp only [Prod.mk.injEq] at hx0
      rw [hx0.1, Rows.uptoBulk]
      have := bulk_all ((List.range l).map D)
      simp only [List.length_map, List.length_range] at this
      omega
/-- What an append to a row of one's own leaves, block by block. -/
theorem app_gen2 {w W : World} {t e : TypeId} {z : Value} {size bytes : Nat} (ht : Tryz.prog.underlying t = some (.slice e)) (hinfo : (Tryz.prog.info? e).map (fun i => (i.zero, i.size, i.bytes)) = some (some z, size, bytes)) (hzs : z.cells.size = size) (hsz : 0 < size)
    {v : Value} {k : Nat} {xs news : List Value} {ad : Addr} {m c : Nat} (O : W.ownsRow w.heap.size e size v k xs) (hB : Below w.heap.size w W) (hl : news.length = m * size) (hnews : ∀ j u, news[j]? = some u → W.cell? (ad.add j) = some u) (h1 : ∀ u ∈ news, u.oneCell' = true)
    (h63 : k + m ≤ 9223372036854775807) (hlen : (k + m) * bytes ≤ 140737488355328) :
    ∃ a2 cp w2, (Builtin.append_ #[t, t] t #[v, .slice (some ad) m c]).run Tryz.prog W = .ok (.slice a2 (k + m) cp) w2 ∧
      w2.ownsRow w.heap.size e size (.slice a2 (k + m) cp) (k + m) (xs ++ news) ∧ Below w.heap.size w w2 ∧ W.grownBy w2 v.ownBlock ∧
      (∀ g, g < W.heap.size → v.ownBlock ≠ some g → (Value.slice a2 (k + m) cp).ownBlock ≠ some g) := by
  obtain ⟨i, hi, hz, hs, hby⟩ := info_parts hinfo
  obtain ⟨v2, w2, hr, O2, hg, -, hnb⟩ := run_append_own_at (P := Tryz.prog) (w := W) w.heap.size t t e i z size bytes ht hi hz hs hby hzs hsz v _ _ O ad m c news hl hnews h1 (by unfold maxLen; omega) hlen hB.size
  obtain ⟨a2, cp, rfl⟩ := own_slice O2
  have hrow : ∀ k, v.ownBlock = some k → w.heap.size ≤ k := fun k hk => (O.lt k hk).1
  refine ⟨a2, cp, w2, hr, O2, ?_, hg, fun g hg1 hg2 => ?_⟩
  · exact ⟨hg.os.trans hB.os, hg.tape.trans hB.tape, hg.output.trans hB.output, Nat.le_trans hB.size hg.size, fun k hk => (hg.block k (Nat.lt_of_lt_of_le hk hB.size) (fun e => by have := hrow k e.symm; omega)).trans (hB.block k hk)⟩
  · rcases hnb with h | h
    · rw [h]; exact hg2
    · rw [h]
      intro e
      have := Option.some.inj e
      omega
theorem grown_of_below {W W' : World} (hb : Below W.heap.size W W') : W.grownBy W' none := ⟨hb.os, hb.tape, hb.output, hb.size, fun k hk _ => hb.block k hk⟩
theorem own_below {W W' : World} {base : Nat} {e : TypeId} {size : Nat} {v : Value} {n : Nat} {xs : List Value} (h : W.ownsRow base e size v n xs) (hb : Below W.heap.size W W') : W'.ownsRow base e size v n xs :=
  h.kept (grown_of_below hb) (by cases v.ownBlock <;> simp)
/-- A value in a block of its own. -/
structure VBox (W : World) (g : Nat) (u : Vl) : Prop where
  lt : g < W.heap.size
  c0 : W.cell? ⟨g, 0, none⟩ = some (.int .u8 u.1)
  c1 : W.cell? ⟨g, 1, none⟩ = some (.int .i64 u.2.1)
  c2 : W.cell? ⟨g, 2, none⟩ = some (.string u.2.2)
theorem VBox.grown {W W' : World} {g : Nat} {u : Vl} {row : Option Nat} (h : VBox W g u) (hg : W.grownBy W' row) (hne : row ≠ some g) : VBox W' g u :=
  ⟨Nat.lt_of_lt_of_le h.lt hg.size, hg.cell h.c0 (fun e => hne e.symm), hg.cell h.c1 (fun e => hne e.symm), hg.cell h.c2 (fun e => hne e.symm)⟩
theorem VBox.below {W W' : World} {g : Nat} {u : Vl} (h : VBox W g u) (hb : Below W.heap.size W W') : VBox W' g u := h.grown (grown_of_below hb) (by simp)
theorem VBox.new (W : World) (k n : Int) (s : ByteArray) : VBox (W.alloc (.cells #[.int .u8 k, .int .i64 n, .string s] 32)) W.heap.size (k, n, s) := by
  constructor <;> simp [go_sem]
/-- A row of one value, in a block that is none of the two rows'. -/
def InRow (W : World) (vr ve : Value) (x : Rw) : Prop := ∃ g u, x = ((some ⟨g, 0, none⟩, 1, 1), [u]) ∧ VBox W g u ∧ vr.ownBlock ≠ some g ∧ ve.ownBlock ≠ some g
structure St (w W : World) (x : Vl) (b : Nat) (vr ve : Value) (xs : List Rw) (es : List Ot) : Prop where
  r : W.ownsRow w.heap.size 54 1 vr xs.length (xs.map rI)
  e : W.ownsRow w.heap.size 34 4 ve es.length (flat es)
  ap : ApartV vr ve
  rows : ∀ y ∈ xs, InRow W vr ve y
  x : VBox W b x
  xr : vr.ownBlock ≠ some b
  xe : ve.ownBlock ≠ some b
  bel : Below w.heap.size w W
variable {w W : World} {x : Vl} {b : Nat} {vr ve : Value} {xs : List Rw} {es : List Ot}
theorem St.below {W' : World} (h : St w W x b vr ve xs es) (hb : Below W.heap.size W W') : St w W' x b vr ve xs es :=
  ⟨own_below h.r hb, own_below h.e hb, h.ap, fun y hy => by
    obtain ⟨g, u, e, hv, h1, h2⟩ := h.rows y hy
    exact ⟨g, u, e, hv.below hb, h1, h2⟩, h.x.below hb, h.xr, h.xe, bel_trans h.bel hb⟩
theorem own_lt {base : Nat} {e : TypeId} {size : Nat} {v : Value} {n : Nat} {zs : List Value} (h : W.ownsRow base e size v n zs) {g : Nat} (hg : W.heap.size ≤ g) : v.ownBlock ≠ some g := fun e => by
  have := (h.lt g e).2
  omega
theorem St.row (h : St w W x b vr ve xs es) (k n : Int) (s : ByteArray) (hlen : xs.length + 1 ≤ 3000000) :
    ∃ a2 m cp w2, (Builtin.append_ #[39, 39] 39 #[vr, .slice (some ⟨W.heap.size + 1, 0, none⟩) 1 1]).run Tryz.prog
        ((W.alloc (.cells #[.int .u8 k, .int .i64 n, .string s] 32)).alloc (.cells #[.slice (some ⟨W.heap.size, 0, none⟩) 1 1] 54)) = .ok (.slice a2 m cp) w2 ∧
      Hid (m = xs.length + 1) ∧ Hid (St w w2 x b (.slice a2 m cp) ve (xs ++ [((some ⟨W.heap.size, 0, none⟩, 1, 1), [(k, n, s)])]) es) := by
  have hN := VBox.new W k n s
  have hb1 : Below W.heap.size W (W.alloc (.cells #[.int .u8 k, .int .i64 n, .string s] 32)) := bel_alloc (Below.refl _ _) _
  have h1 := h.below hb1
  have hr0 := own_lt h.r (Nat.le_refl _)
  have he0 := own_lt h.e (Nat.le_refl _)
  have hsz : (W.alloc (.cells #[.int .u8 k, .int .i64 n, .string s] 32)).heap.size = W.heap.size + 1 := by simp
  generalize W.alloc (.cells #[.int .u8 k, .int .i64 n, .string s] 32) = W1 at *
  have hb2 : Below W1.heap.size W1 (W1.alloc (.cells #[.slice (some ⟨W.heap.size, 0, none⟩) 1 1] 54)) := bel_alloc (Below.refl _ _) _
  have h2 := h1.below hb2
  have hN2 := hN.below hb2
  have hc : ∀ j u, ([.slice (some ⟨W.heap.size, 0, none⟩) 1 1] : List Value)[j]? = some u → (W1.alloc (.cells #[.slice (some ⟨W.heap.size, 0, none⟩) 1 1] 54)).cell? ((⟨W.heap.size + 1, 0, none⟩ : Addr).add j) = some u := by
    rw [← hsz]
    exact cell_one_new W1 _ 54
  generalize W1.alloc (.cells #[.slice (some ⟨W.heap.size, 0, none⟩) 1 1] 54) = W2 at *
  obtain ⟨a2, cp, w2, hr, O2, B2, G2, N2⟩ := app_gen2 (W := W2) (t := 39) (ad := ⟨W.heap.size + 1, 0, none⟩) (m := 1) (c := 1) (news := [.slice (some ⟨W.heap.size, 0, none⟩) 1 1]) Tryz.underlying39 infoRow (by rfl) (by omega) h2.r h2.bel rfl hc
    (by intro u hu; rw [List.mem_singleton.1 hu]; rfl) (by omega) (by omega)
  refine ⟨a2, _, cp, w2, hr, rfl, ⟨?_, ?_, ?_, ?_, ?_, ?_, ?_, B2⟩⟩
  · have e1 : xs.map rI ++ [.slice (some ⟨W.heap.size, 0, none⟩) 1 1] = (xs ++ ([((some ⟨W.heap.size, 0, none⟩, 1, 1), [(k, n, s)])] : List Rw)).map rI := by simp
    rw [e1] at O2
    simpa using O2
  · refine h2.e.kept G2 ?_
    cases hv : ve.ownBlock with
    | none => exact .inl rfl
    | some g => exact .inr fun e => h2.ap g e.symm hv
  · intro g hg1 hg2
    exact N2 g (h2.e.lt g hg2).2 (fun e => h2.ap g e hg2) hg1
  · intro y hy
    rcases List.mem_append.1 hy with hy | hy
    · obtain ⟨g, u, e, hv, h3, h4⟩ := h2.rows y hy
      exact ⟨g, u, e, hv.grown G2 h3, N2 g hv.lt h3, h4⟩
    · rw [List.mem_singleton.1 hy]
      exact ⟨W.heap.size, (k, n, s), rfl, hN2.grown G2 hr0, N2 _ hN2.lt hr0, he0⟩
  · exact h2.x.grown G2 h2.xr
  · exact N2 b h2.x.lt h2.xr
  · exact h2.xe
theorem St.out (h : St w W x b vr ve xs es) (o : Ot) (hlen : es.length + 1 ≤ 3000000) :
    ∃ a2 m cp w2, (Builtin.append_ #[30, 30] 30 #[ve, .slice (some ⟨W.heap.size, 0, none⟩) 1 1]).run Tryz.prog
        (W.alloc (.cells #[.int .u8 o.k, .int .i64 o.n, .string o.s, .int .i64 o.e] 34)) = .ok (.slice a2 m cp) w2 ∧
      Hid (m = es.length + 1) ∧ Hid (St w w2 x b vr (.slice a2 m cp) xs (es ++ [o])) := by
  have hb2 : Below W.heap.size W (W.alloc (.cells #[.int .u8 o.k, .int .i64 o.n, .string o.s, .int .i64 o.e] 34)) := bel_alloc (Below.refl _ _) _
  have h2 := h.below hb2
  have hN := Box.new W o
  have hc : ∀ j u, (KD.oc o)[j]? = some u → (W.alloc (.cells #[.int .u8 o.k, .int .i64 o.n, .string o.s, .int .i64 o.e] 34)).cell? ((⟨W.heap.size, 0, none⟩ : Addr).add j) = some u := by
    intro j u hu
    obtain ⟨-, c0, c1, c2, c3, -, -, -, -⟩ := hN
    rw [Addr.add_lit, Nat.zero_add]
    match j, hu with
    | 0, hu => rw [← hu]; exact c0
    | 1, hu => rw [← hu]; exact c1
    | 2, hu => rw [← hu]; exact c2
    | 3, hu => rw [← hu]; exact c3
    | j + 4, hu => simp [KD.oc] at hu
  generalize W.alloc (.cells #[.int .u8 o.k, .int .i64 o.n, .string o.s, .int .i64 o.e] 34) = W2 at *
  obtain ⟨a2, cp, w2, hr, O2, B2, G2, N2⟩ := app_gen2 (W := W2) (t := 30) (ad := ⟨W.heap.size, 0, none⟩) (m := 1) (c := 1) (news := KD.oc o) Tryz.underlying30 KD.infoOut (by rfl) (by omega) h2.e h2.bel rfl hc
    (by intro u hu; simp only [KD.oc, List.mem_cons, List.mem_nil_iff, or_false] at hu; rcases hu with rfl | rfl | rfl | rfl <;> rfl) (by omega) (by omega)
  refine ⟨a2, _, cp, w2, hr, rfl, ⟨?_, ?_, ?_, ?_, ?_, ?_, ?_, B2⟩⟩
  · refine h2.r.kept G2 ?_
    cases hv : vr.ownBlock with
    | none => exact .inl rfl
    | some g => exact .inr fun e => h2.ap g hv e.symm
  · have e1 : flat es ++ KD.oc o = flat (es ++ [o]) := by rw [flat_app]; simp [flat]
    rw [e1] at O2
    simpa using O2
  · intro g hg1 hg2
    exact N2 g (h2.r.lt g hg1).2 (fun e => h2.ap g hg1 e) hg2
  · intro y hy
    obtain ⟨g, u, e, hv, h3, h4⟩ := h2.rows y hy
    exact ⟨g, u, e, hv.grown G2 h4, h3, N2 g hv.lt h4⟩
  · exact h2.x.grown G2 h2.xe
  · exact h2.xr
  · exact N2 b h2.x.lt h2.xe
end Go.Proofs.YtefelelhgepkeaaGreatDoor.T
