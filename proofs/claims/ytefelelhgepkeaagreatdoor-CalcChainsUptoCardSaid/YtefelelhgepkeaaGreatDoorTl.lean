/- The law about chains: appends of one out beside another row, and its walk. -/
import Derived.Test.YtefelelhgepkeaaGreatDoorTj
import Derived.Test.YtefelelhgepkeaaGreatDoorDc
import Derived.Test.YtefelelhgepkeaaGreatDoorTb
import Derived.Test.YtefelelhgepkeaaGreatDoorTh
namespace Go.Proofs.YtefelelhgepkeaaGreatDoor.T
open Go.ChangeShapes Go.WideShapes Go.ChangeAt Go.RowKit Go.Proofs.YtefelelhgepkeaaGreatDoor.V Go.Proofs.YtefelelhgepkeaaGreatDoor.K Go.Proofs.YtefelelhgepkeaaGreatDoor.KD
theorem app_one {w W : World} {v : Value} {xs : List Ot} (O : W.ownsRow w.heap.size 34 4 v xs.length (flat xs)) (hB : Below w.heap.size w W) (o : Ot) (hlen : xs.length + 1 ≤ 3000000) :
    ∃ a2 m cp w2, (Builtin.append_ #[30, 30] 30 #[v, .slice (some ⟨W.heap.size, 0, none⟩) 1 1]).run Tryz.prog
        (W.alloc (.cells #[.int .u8 o.k, .int .i64 o.n, .string o.s, .int .i64 o.e] 34)) = .ok (.slice a2 m cp) w2 ∧
      Hid (m = xs.length + 1) ∧ Hid (w2.ownsRow w.heap.size 34 4 (.slice a2 m cp) (xs ++ [o]).length (flat (xs ++ [o]))) ∧ Hid (Below w.heap.size w w2) ∧
      Hid (∀ (u : Value) (n : Nat) zs, ApartV v u → W.ownsRow w.heap.size 34 4 u n zs → w2.ownsRow w.heap.size 34 4 u n zs ∧ ApartV (.slice a2 m cp) u) := by
  have hb2 : Below W.heap.size W (W.alloc (.cells #[.int .u8 o.k, .int .i64 o.n, .string o.s, .int .i64 o.e] 34)) := bel_alloc (Below.refl _ _) _
  have hN := Box.new W o
  have hc : ∀ j u, (KD.oc o)[j]? = some u → (W.alloc (.cells #[.int .u8 o.k, .int .i64 o.n, .string o.s, .int .i64 o.e] 34)).cell? ((⟨W.heap.size, 0, none⟩ : Addr).add j) = some u := by
    intro j u hu
    obtain ⟨-, c0, c1, c2, c3, -, -, -, -⟩ := hN
    rw [Addr.add_lit, Nat.zero_add]
    match j, hu with
    | 0, hu => rw [← hu]; exact c0
    | 1, hu => rw [← hu]; exact c1
    | 2, hu => rw [← hu]; exact c2
    | 3, hu => rw [← hu]; exact c3
    | j + 4, hu => simp [KD.oc] at hu
  generalize W.alloc (.cells #[.int .u8 o.k, .int .i64 o.n, .string o.s, .int .i64 o.e] 34) = W2 at *
  obtain ⟨a2, cp, w2, hr, O2, B2, G2, N2⟩ := app_gen2 (W := W2) (t := 30) (ad := ⟨W.heap.size, 0, none⟩) (m := 1) (c := 1) (news := KD.oc o) Tryz.underlying30 KD.infoOut (by rfl) (by omega) (own_below O hb2) (bel_trans hB hb2) rfl hc
    (by intro u hu; simp only [KD.oc, List.mem_cons, List.mem_nil_iff, or_false] at hu; rcases hu with rfl | rfl | rfl | rfl <;> rfl) (by omega) (by omega)
  refine ⟨a2, _, cp, w2, hr, rfl, ?_, B2, fun u n zs hA O' => ⟨(own_below O' hb2).kept G2 ?_, ?_⟩⟩
  · have e1 : flat xs ++ KD.oc o = flat (xs ++ [o]) := by rw [flat_app]; simp [flat]
    rw [e1] at O2
    show World.ownsRow _ _ _ _ _ _ _
    simpa using O2
  · cases hv : u.ownBlock with
    | none => exact .inl rfl
    | some g => exact .inr fun e => hA g e.symm hv
  · intro g hg1 hg2
    exact N2 g ((own_below O' hb2).lt g hg2).2 (fun e => hA g e hg2) hg1
theorem cells4 {W W' : World} {b : Nat} {o : Ot} (h : Box W b o) (hb : Below W.heap.size W W') :
    W'.cell? ⟨b, 0, none⟩ = some (.int .u8 o.k) ∧ W'.cell? ⟨b, 1, none⟩ = some (.int .i64 o.n) ∧ W'.cell? ⟨b, 2, none⟩ = some (.string o.s) ∧ W'.cell? ⟨b, 3, none⟩ = some (.int .i64 o.e) := by
  obtain ⟨-, c0, c1, c2, c3, -, -, -, -⟩ := h.below hb
  exact ⟨c0, c1, c2, c3⟩
theorem not_one (o : Ot) (ht : tr o = true) (W : World) : Ret 16 #[.int .u8 22, .slice (some ⟨W.heap.size, 0, none⟩) 1 1] (W.alloc (.cells #[.int .u8 o.k, .int .i64 o.n, .string o.s, .int .i64 o.e] 34)) (enc (neg o)) :=
  c_Node_not o ht (some ⟨W.heap.size, 0, none⟩) 1 _ (out_one W o)
/-- All that the law's walk asks of the calls on one list of conditions, its parts and its contraries. -/
structure Facts (W0 : World) (z3 z4 p3 q3 p4 q4 y3 y4 : Ot) (a : Option Addr) (n c : Nat) (b : Option Addr) (m d : Nat) (a3 : Option Addr) (m3 c3 : Nat) (a6 : Option Addr) (m6 c6 : Nat) (L : List Ot) : Prop where
  all3 : ∀ W, Below W0.heap.size W0 W → Ret 16 #[.int .u8 23, .slice a3 m3 c3] W (ov z3.k z3.n z3.s z3.e)
  all4 : ∀ W, Below W0.heap.size W0 W → Ret 16 #[.int .u8 24, .slice a3 m3 c3] W (ov z4.k z4.n z4.s z4.e)
  pb3 : ∀ W, Below W0.heap.size W0 W → Ret 16 #[.int .u8 23, .slice b m d] W (ov p3.k p3.n p3.s p3.e)
  qa3 : ∀ W, Below W0.heap.size W0 W → Ret 16 #[.int .u8 23, .slice a n c] W (ov q3.k q3.n q3.s q3.e)
  pb4 : ∀ W, Below W0.heap.size W0 W → Ret 16 #[.int .u8 24, .slice b m d] W (ov p4.k p4.n p4.s p4.e)
  qa4 : ∀ W, Below W0.heap.size W0 W → Ret 16 #[.int .u8 24, .slice a n c] W (ov q4.k q4.n q4.s q4.e)
  two3 : ∀ W : World, Ret 16 #[.int .u8 23, .slice (some ⟨W.heap.size, 0, none⟩) 2 2] (W.alloc (.cells #[.int .u8 p3.k, .int .i64 p3.n, .string p3.s, .int .i64 p3.e, .int .u8 q3.k, .int .i64 q3.n, .string q3.s, .int .i64 q3.e] 34)) (ov z3.k z3.n z3.s z3.e)
  two4 : ∀ W : World, Ret 16 #[.int .u8 24, .slice (some ⟨W.heap.size, 0, none⟩) 2 2] (W.alloc (.cells #[.int .u8 p4.k, .int .i64 p4.n, .string p4.s, .int .i64 p4.e, .int .u8 q4.k, .int .i64 q4.n, .string q4.s, .int .i64 q4.e] 34)) (ov z4.k z4.n z4.s z4.e)
  tur : ∀ W, Below W0.heap.size W0 W → Calls Tryz.prog 27 #[.slice a3 m3 c3] W fun e w' => (∃ a2 c2, e = .returned (.slice a2 m3 c2) ∧ Outs w' a2 m3 L.reverse) ∧ Below W.heap.size W w'
  rev3 : ∀ W a2 c2, Outs W a2 m3 L.reverse → Ret 16 #[.int .u8 23, .slice a2 m3 c2] W (ov z3.k z3.n z3.s z3.e)
  rev4 : ∀ W a2 c2, Outs W a2 m3 L.reverse → Ret 16 #[.int .u8 24, .slice a2 m3 c2] W (ov z4.k z4.n z4.s z4.e)
  not3 : ∀ W : World, Ret 16 #[.int .u8 22, .slice (some ⟨W.heap.size, 0, none⟩) 1 1] (W.alloc (.cells #[.int .u8 z3.k, .int .i64 z3.n, .string z3.s, .int .i64 z3.e] 34)) (ov y3.k y3.n y3.s y3.e)
  not4 : ∀ W : World, Ret 16 #[.int .u8 22, .slice (some ⟨W.heap.size, 0, none⟩) 1 1] (W.alloc (.cells #[.int .u8 z4.k, .int .i64 z4.n, .string z4.s, .int .i64 z4.e] 34)) (ov y4.k y4.n y4.s y4.e)
  nots4 : ∀ W, Below W0.heap.size W0 W → Ret 16 #[.int .u8 24, .slice a6 m6 c6] W (ov y3.k y3.n y3.s y3.e)
  nots3 : ∀ W, Below W0.heap.size W0 W → Ret 16 #[.int .u8 23, .slice a6 m6 c6] W (ov y4.k y4.n y4.s y4.e)
  conds : ∀ W, Below W0.heap.size W0 W → Ret 17 #[.slice a3 m3 c3] W (ov z3.k z3.n z3.s z3.e)
theorem same_self (z : Ot) (W : World) : Ret 18 #[ov z.k z.n z.s z.e, ov z.k z.n z.s z.e] W (.bool true) := by
  have h := r_Same5 z z W
  rw [sameO_refl] at h
  exact h
set_option maxRecDepth 100000 in
theorem facts_of {W0 : World} {l r : List Ot} (hl : l.all tr = true) (hr : r.all tr = true) {a b a3 a6 : Option Addr} {n c m d m3 c3 m6 c6 : Nat} (hn : n ≤ 1048576) (hm : m ≤ 1048576) (h1 : Outs W0 a n l) (h2 : Outs W0 b m r) (h3 : Outs W0 a3 m3 (l ++ r)) (h6 : Outs W0 a6 m6 ((l ++ r).map neg)) :
    Facts W0 (node 23 (l ++ r)) (node 24 (l ++ r)) (node 23 r) (node 23 l) (node 24 r) (node 24 l) (neg (node 23 (l ++ r))) (neg (node 24 (l ++ r))) a n c b m d a3 m3 c3 a6 m6 c6 (l ++ r) := by
  have hL : (l ++ r).all tr = true := all_app hl hr
  have hm3 : m3 ≤ 2097152 := by have := h3.len; rw [List.length_append, ← h1.len, ← h2.len] at this; omega
  have hm6 : m6 ≤ 2097152 := by have := h6.len; rw [List.length_map, ← h3.len] at this; omega
  constructor
  · exact fun W hb => c_Node_and a3 m3 c3 _ (by omega) hL W (h3.below hb)
  · exact fun W hb => c_Node_or a3 m3 c3 _ (by omega) hL W (h3.below hb)
  · exact fun W hb => c_Node_and b m d _ (by omega) hr W (h2.below hb)
  · exact fun W hb => c_Node_and a n c _ (by omega) hl W (h1.below hb)
  · exact fun W hb => c_Node_or b m d _ (by omega) hr W (h2.below hb)
  · exact fun W hb => c_Node_or a n c _ (by omega) hl W (h1.below hb)
  · intro W
    have h := c_Node_and (some ⟨W.heap.size, 0, none⟩) 2 2 [node 23 r, node 23 l] (by omega) (all_two (tr_and hr) (tr_and hl)) _ (outs_two W (node 23 r) (node 23 l))
    rwa [law_nested hl hr] at h
  · intro W
    have h := c_Node_or (some ⟨W.heap.size, 0, none⟩) 2 2 [node 24 r, node 24 l] (by omega) (all_two (tr_or hr) (tr_or hl)) _ (outs_two W (node 24 r) (node 24 l))
    rwa [law_either hl hr] at h
  · exact fun W hb => l_turned a3 m3 c3 _ hm3 W (h3.below hb)
  · intro W a2 c2 ho
    have h := c_Node_and a2 m3 c2 _ (by omega) (all_rev hL) W ho
    rwa [(law_turned hL).1] at h
  · intro W a2 c2 ho
    have h := c_Node_or a2 m3 c2 _ (by omega) (all_rev hL) W ho
    rwa [(law_turned hL).2] at h
  · exact fun W => not_one _ (tr_and hL) W
  · exact fun W => not_one _ (tr_or hL) W
  · intro W hb
    have h := c_Node_or a6 m6 c6 _ (by omega) (all_neg hL) W (h6.below hb)
    rwa [← (law_nots hL).1, node_not (tr_and hL)] at h
  · intro W hb
    have h := c_Node_and a6 m6 c6 _ (by omega) (all_neg hL) W (h6.below hb)
    rwa [← (law_nots hL).2, node_not (tr_or hL)] at h
  · exact fun W hb => c_Conds a3 m3 c3 _ (by omega) hL W (h3.below hb)
/-- The region with this number. -/
def regionOf (n : Nat) : Code → Option Code
  | .region i o b => if i = n then some (.region i o b) else none
  | .seq a b => match regionOf n a with
    | some c => some c
    | none => regionOf n b
  | .block _ c => regionOf n c
  | .scope c => regionOf n c
  | .loop c => regionOf n c
  | .cond _ a b => match regionOf n a with
    | some c => some c
    | none => regionOf n b
  | _ => none
end Go.Proofs.YtefelelhgepkeaaGreatDoor.T
