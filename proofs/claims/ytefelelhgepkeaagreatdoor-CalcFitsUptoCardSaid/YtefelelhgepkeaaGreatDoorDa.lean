/- A slice of outs: as an argument, as a row of one's own, and appended. -/
import Derived.Test.YtefelelhgepkeaaGreatDoorKn
import Derived.Test.YtefelelhgepkeaaGreatDoorLaw
import Derived.Deep.Slices
import Derived.Laws.OwnMore
import Derived.SizedLaws
import Derived.ChangeSame
namespace Go.Proofs.YtefelelhgepkeaaGreatDoor.KD
open Go.ChangeShapes Go.WideShapes Go.ChangeAt Go.RowKit Go.Proofs.YtefelelhgepkeaaGreatDoor.V Go.Proofs.YtefelelhgepkeaaGreatDoor.K
def oc (o : Ot) : List Value := [.int .u8 o.k, .int .i64 o.n, .string o.s, .int .i64 o.e]
def flat (l : List Ot) : List Value := l.flatMap oc
theorem flat_app (a b : List Ot) : flat (a ++ b) = flat a ++ flat b := by simp [flat]
theorem flat_len : ∀ l : List Ot, (flat l).length = l.length * 4
  | [] => rfl
  | o :: l => by
    have := flat_len l
    rw [show flat (o :: l) = oc o ++ flat l by simp [flat], List.length_append, this, List.length_cons]
    simp [oc]; omega
theorem flat_at : ∀ (l : List Ot) (k : Nat) (o : Ot), l[k]? = some o → ∀ j, j < 4 → (flat l)[k * 4 + j]? = (oc o)[j]?
  | x :: l, 0, o, h, j, hj => by
    have : x = o := Option.some.inj h
    subst this
    rw [show flat (x :: l) = oc x ++ flat l by simp [flat], Nat.zero_mul, Nat.zero_add, List.getElem?_append_left (by simp [oc]; omega)]
  | x :: l, k + 1, o, h, j, hj => by
    rw [show flat (x :: l) = oc x ++ flat l by simp [flat], List.getElem?_append_right (by simp [oc]; omega)]
    have e : (k + 1) * 4 + j - (oc x).length = k * 4 + j := by simp [oc]; omega
    rw [e]
    exact flat_at l k o h j hj
theorem infoOut : (Tryz.prog.info? 34).map (fun i => (i.zero, i.size, i.bytes)) = some (some (.agg #[.int .u8 0, .int .i64 0, .string ⟨#[]⟩, .int .i64 0]), 4, 40) := by kernel_rfl
theorem out_u (W : World) (a : Option Addr) (n : Nat) (ys : List Ot) (h : Outs W a n ys) (g p : Nat) (ha : a = some ⟨g, p, none⟩) : ∀ j u, (flat ys)[j]? = some u → W.cell? ((⟨g, p, none⟩ : Addr).add j) = some u := by
  intro j u hu
  have hj : j < ys.length * 4 := by rw [← flat_len]; exact (List.getElem?_eq_some_iff.1 hu).1
  have hk : j / 4 < n := by rw [h.len]; omega
  obtain ⟨g', p', o, h1, h2, h3, c0, c1, c2, c3⟩ := h.at_ (j / 4) hk
  rw [ha] at h1
  injection h1 with h1
  injection h1 with e1 e2
  subst e1; subst e2
  have hf := flat_at ys (j / 4) o h2 (j % 4) (Nat.mod_lt _ (by decide))
  rw [show j / 4 * 4 + j % 4 = j by omega, hu] at hf
  rw [Addr.add_lit]
  have hm := Nat.mod_lt j (show 0 < 4 by decide)
  have hj' : p + j = p + j / 4 * 4 + j % 4 := by omega
  rw [hj']
  have hc : j % 4 = 0 ∨ j % 4 = 1 ∨ j % 4 = 2 ∨ j % 4 = 3 := by omega
  rcases hc with e | e | e | e <;> rw [e] at hf ⊢ <;> (rw [hf]; first | exact c0 | exact c1 | exact c2 | exact c3)
/-- What an append of outs to a row of one's own leaves. -/
theorem app_outs {w W : World} {v : Value} {xs ys : List Ot} {a : Option Addr} {n c : Nat} (O : W.ownsRow w.heap.size 34 4 v xs.length (flat xs)) (hB : Below w.heap.size w W) (h : Outs W a n ys) (hac : a = none → c = 0) (hlen : xs.length + n ≤ 3000000000000) :
    ∃ a2 m cp w2, (Builtin.append_ #[30, 30] 30 #[v, .slice a n c]).run Tryz.prog W = .ok (.slice a2 m cp) w2 ∧ Hid (m = (xs ++ ys).length) ∧
      Hid (w2.ownsRow w.heap.size 34 4 (.slice a2 m cp) m (flat (xs ++ ys))) ∧ Hid (Below w.heap.size w w2) := by
  obtain ⟨i, hi, hz, hs, hby⟩ := info_parts infoOut
  have hn := h.len
  cases a with
  | none =>
    have h0 : n = 0 := by
      rcases Nat.eq_zero_or_pos n with e | e
      · exact e
      · obtain ⟨g, p, o, h1, _⟩ := h.at_ 0 e
        cases h1
    subst h0
    have hy : ys = [] := List.eq_nil_of_length_eq_zero hn.symm
    subst hy
    obtain rfl := hac rfl
    have hr := run_append_owned_none (P := Tryz.prog) (w := W) w.heap.size 30 30 34 i 4 Tryz.underlying30 hi v _ _ O
    obtain ⟨a2, cp, rfl⟩ := own_slice O
    rw [List.append_nil]
    exact ⟨a2, _, cp, W, hr, rfl, O, hB⟩
  | some ad =>
    have had : n = 0 ∨ ∃ g p, ad = ⟨g, p, none⟩ := by
      rcases Nat.eq_zero_or_pos n with e | e
      · exact .inl e
      · obtain ⟨g, p, o, h1, _⟩ := h.at_ 0 e
        exact .inr ⟨g, p, Option.some.inj h1⟩
    have hcells : ∀ j u, (flat ys)[j]? = some u → W.cell? (ad.add j) = some u := by
      rcases had with e | ⟨g, p, rfl⟩
      · subst e
        have hy : ys = [] := List.eq_nil_of_length_eq_zero hn.symm
        subst hy
        intro j u hu
        simp [flat] at hu
      · exact out_u W _ n ys h g p rfl
    obtain ⟨v2, w2, hr, O2, hg, -, -⟩ := run_append_own_at (P := Tryz.prog) (w := W) w.heap.size 30 30 34 i _ 4 40 Tryz.underlying30 hi hz hs hby (by rfl) (by omega) v _ _ O ad n c (flat ys) (by rw [flat_len, hn]) hcells
      (by
        intro u hu
        obtain ⟨o, -, ho⟩ := List.mem_flatMap.1 hu
        simp only [oc, List.mem_cons, List.mem_nil_iff, or_false] at ho
        rcases ho with rfl | rfl | rfl | rfl <;> rfl) (by unfold maxLen; omega) (by omega) hB.size
    have e2 : xs.length + n = (xs ++ ys).length := by rw [List.length_append, hn]
    rw [← flat_app, e2] at O2
    obtain ⟨a2, cp, rfl⟩ := own_slice O2
    have hrow : ∀ k, v.ownBlock = some k → w.heap.size ≤ k := fun k hk => (O.lt k hk).1
    exact ⟨a2, _, cp, w2, hr, rfl, O2, ⟨hg.os.trans hB.os, hg.tape.trans hB.tape, hg.output.trans hB.output, Nat.le_trans hB.size hg.size, fun k hk => (hg.block k (Nat.lt_of_lt_of_le hk hB.size) (fun e => by have := hrow k e.symm; omega)).trans (hB.block k hk)⟩⟩
/-- A row of one's own is a slice of outs. -/
theorem own_outs {w : World} {base : Nat} {e : TypeId} {a : Option Addr} {m c : Nat} {l : List Ot} (h : w.ownsRow base e 4 (.slice a m c) m (flat l)) (hm : m = l.length) : Outs w a m l := by
  have h0 := h
  rcases h.2 with ⟨e1, hn⟩ | ⟨g, cap, cur, e1, -, hg, hnc, hcm, -, -⟩
  · injection e1 with e1 e2 e3
    subst e1
    exact ⟨hm, fun k hk => absurd hk (by omega)⟩
  · injection e1 with e1 e2 e3
    subst e1
    refine ⟨hm, fun k hk => ?_⟩
    have hkl : k < l.length := by omega
    have hc := h0.cells (g := g) rfl
    have ho : l[k]? = some l[k] := List.getElem?_eq_getElem hkl
    have hf := flat_at l k l[k] ho
    refine ⟨g, 0, l[k], rfl, ho, (Array.getElem?_eq_some_iff.1 hg).1, ?_, ?_, ?_, ?_⟩
    · have := hc (k * 4 + 0) _ ((hf 0 (by decide)).trans rfl)
      rw [Addr.add_lit] at this
      simpa using this
    · have := hc (k * 4 + 1) _ ((hf 1 (by decide)).trans rfl)
      rw [Addr.add_lit] at this
      rw [Nat.add_assoc]; exact this
    · have := hc (k * 4 + 2) _ ((hf 2 (by decide)).trans rfl)
      rw [Addr.add_lit] at this
      rw [Nat.add_assoc]; exact this
    · have := hc (k * 4 + 3) _ ((hf 3 (by decide)).trans rfl)
      rw [Addr.add_lit] at this
      rw [Nat.add_assoc]; exact this
end Go.Proofs.YtefelelhgepkeaaGreatDoor.KD
