/- The law about comparisons: plain facts; what its walk asks of the calls. -/
import Derived.Test.YtefelelhgepkeaaGreatDoorTp
import Derived.Test.YtefelelhgepkeaaGreatDoorTh
import Derived.Test.YtefelelhgepkeaaGreatDoorTl
import Derived.Test.YtefelelhgepkeaaGreatDoorTk
namespace Go.Proofs.YtefelelhgepkeaaGreatDoor.T
open Go.ChangeShapes Go.WideShapes Go.ChangeAt Go.RowKit Go.Proofs.YtefelelhgepkeaaGreatDoor.V Go.Proofs.YtefelelhgepkeaaGreatDoor.K Go.Proofs.YtefelelhgepkeaaGreatDoor.KD Go.Proofs.YtefelelhgepkeaaGreatDoor.S
/-- One of the three outs of a comparison. -/
def tri (o : Ot) : Prop := o = nul ∨ o = bo true ∨ o = bo false
def isT1 (o : Ot) : Nat := if sameO o (bo true) then 1 else 0
def cnt (l : List Ot) : Nat := (l.map isT1).sum
def nl (x y : Vl) : Bool := x.1 == 0 || y.1 == 0
/-- What a comparison's three nodes come to. -/
structure Three (x y : Vl) (l e g ge ne le sm : Ot) : Prop where
  tr3 : tri l ∧ tri e ∧ tri g
  neg3 : ge = neg l ∧ ne = neg e ∧ le = neg g
  nul3 : ((l.k == 0) = nl x y) ∧ ((e.k == 0) = nl x y) ∧ ((g.k == 0) = nl x y)
  one3 : cnt [l, e, g] = if nl x y then 0 else 1
  sm3 : sm = bo (same x.1 x.2.1 x.2.2 y.1 y.2.1 y.2.2)
theorem tri_tr {o : Ot} (h : tri o) : tr o = true := by
  rcases h with rfl | rfl | rfl <;> decide +kernel
theorem three_of {x y : Vl} (hx : vOk x = true) (hy : vOk y = true) (ha : agree x.1 y.1 = true) :
    Three x y (node 14 [ofV x, ofV y]) (node 12 [ofV x, ofV y]) (node 16 [ofV x, ofV y]) (node 17 [ofV x, ofV y]) (node 13 [ofV x, ofV y]) (node 15 [ofV x, ofV y]) (node 18 [ofV x, ofV y]) := by
  have hp := pair_vals hx hy ha
  have hs := node_same hp
  have hn : (isN (ofV x) || isN (ofV y)) = nl x y := by simp [isN, ofV, nl]
  have hc : cmpV (ofV x).k (ofV x).n (ofV x).s (ofV y).k (ofV y).n (ofV y).s = -1 ∨ cmpV (ofV x).k (ofV x).n (ofV x).s (ofV y).k (ofV y).n (ofV y).s = 0 ∨ cmpV (ofV x).k (ofV x).n (ofV x).s (ofV y).k (ofV y).n (ofV y).s = 1 ∨ nl x y = true := by
    by_cases hq : nl x y = true
    · exact .inr (.inr (.inr hq))
    · have hk : x.1 = y.1 := by
        rw [agree_iff] at ha
        simp [nl] at hq
        omega
      have h1 : vd x.1 x.2.1 x.2.2 = true := hx
      have h2 : vd x.1 y.2.1 y.2.2 = true := by rw [hk]; exact hy
      have h3 := (cmpV_3 h1 h2).1
      rw [hk] at h3
      have e : cmpV (ofV x).k (ofV x).n (ofV x).s (ofV y).k (ofV y).n (ofV y).s = cmpV y.1 x.2.1 x.2.2 y.1 y.2.1 y.2.2 := by
        show cmpV x.1 _ _ _ _ _ = _
        rw [hk]
        rfl
      rw [e]
      rcases h3 with h | h | h
      · exact .inl h
      · exact .inr (.inl h)
      · exact .inr (.inr (.inl h))
  rw [hs, node_cmp (by decide) (by decide) hp, node_cmp (by decide) (by decide) hp, node_cmp (by decide) (by decide) hp, node_cmp (by decide) (by decide) hp, node_cmp (by decide) (by decide) hp, node_cmp (by decide) (by decide) hp, hn]
  generalize cmpV (ofV x).k (ofV x).n (ofV x).s (ofV y).k (ofV y).n (ofV y).s = cv at hc
  cases hq : nl x y with
  | true =>
    simp only [if_true]
    refine ⟨⟨.inl rfl, .inl rfl, .inl rfl⟩, ⟨rfl, rfl, rfl⟩, ?_, ?_, rfl⟩
    · rw [hq]; exact ⟨rfl, rfl, rfl⟩
    · rw [hq]; decide +kernel
  | false =>
    simp only [Bool.false_eq_true, if_false]
    rcases hc with rfl | rfl | rfl | h
    · refine ⟨⟨.inr (.inl rfl), .inr (.inr rfl), .inr (.inr rfl)⟩, ⟨rfl, rfl, rfl⟩, ?_, ?_, rfl⟩
      · rw [hq]; exact ⟨rfl, rfl, rfl⟩
      · rw [hq]; decide +kernel
    · refine ⟨⟨.inr (.inr rfl), .inr (.inl rfl), .inr (.inr rfl)⟩, ⟨rfl, rfl, rfl⟩, ?_, ?_, rfl⟩
      · rw [hq]; exact ⟨rfl, rfl, rfl⟩
      · rw [hq]; decide +kernel
    · refine ⟨⟨.inr (.inr rfl), .inr (.inr rfl), .inr (.inl rfl)⟩, ⟨rfl, rfl, rfl⟩, ?_, ?_, rfl⟩
      · rw [hq]; exact ⟨rfl, rfl, rfl⟩
      · rw [hq]; decide +kernel
    · rw [hq] at h; cases h
/-- The calls of the law's walk on one slice of two values. -/
structure Cmps (W0 : World) (a2 : Option Addr) (c2 : Nat) (l e g ge ne le sm : Ot) : Prop where
  l14 : ∀ W, Below W0.heap.size W0 W → Ret 16 #[.int .u8 14, .slice a2 2 c2] W (ov l.k l.n l.s l.e)
  e12 : ∀ W, Below W0.heap.size W0 W → Ret 16 #[.int .u8 12, .slice a2 2 c2] W (ov e.k e.n e.s e.e)
  g16 : ∀ W, Below W0.heap.size W0 W → Ret 16 #[.int .u8 16, .slice a2 2 c2] W (ov g.k g.n g.s g.e)
  ge17 : ∀ W, Below W0.heap.size W0 W → Ret 16 #[.int .u8 17, .slice a2 2 c2] W (ov ge.k ge.n ge.s ge.e)
  ne13 : ∀ W, Below W0.heap.size W0 W → Ret 16 #[.int .u8 13, .slice a2 2 c2] W (ov ne.k ne.n ne.s ne.e)
  le15 : ∀ W, Below W0.heap.size W0 W → Ret 16 #[.int .u8 15, .slice a2 2 c2] W (ov le.k le.n le.s le.e)
  sm18 : ∀ W, Below W0.heap.size W0 W → Ret 16 #[.int .u8 18, .slice a2 2 c2] W (ov sm.k sm.n sm.s sm.e)
theorem cmps_of {x y : Vl} (hx : vOk x = true) (hy : vOk y = true) (ha : agree x.1 y.1 = true) {W0 : World} {a2 : Option Addr} {c2 : Nat} (h : Outs W0 a2 2 [ofV x, ofV y]) :
    Cmps W0 a2 c2 (node 14 [ofV x, ofV y]) (node 12 [ofV x, ofV y]) (node 16 [ofV x, ofV y]) (node 17 [ofV x, ofV y]) (node 13 [ofV x, ofV y]) (node 15 [ofV x, ofV y]) (node 18 [ofV x, ofV y]) :=
  ⟨fun W hb => c_Node_cmp 14 (by decide) (by decide) x y hx hy ha a2 c2 W (h.below hb), fun W hb => c_Node_cmp 12 (by decide) (by decide) x y hx hy ha a2 c2 W (h.below hb), fun W hb => c_Node_cmp 16 (by decide) (by decide) x y hx hy ha a2 c2 W (h.below hb), fun W hb => c_Node_cmp 17 (by decide) (by decide) x y hx hy ha a2 c2 W (h.below hb),
    fun W hb => c_Node_cmp 13 (by decide) (by decide) x y hx hy ha a2 c2 W (h.below hb), fun W hb => c_Node_cmp 15 (by decide) (by decide) x y hx hy ha a2 c2 W (h.below hb), fun W hb => c_Node_same x y hx hy ha a2 c2 W (h.below hb)⟩
noncomputable def code15 : Code := (Tryz.f9.body.bind (regionOf 15)).getD .skip
set_option maxRecDepth 1000000 in
set_option maxHeartbeats 8000000 in
theorem reg15 {wd : World} {g q c g' q' c' k : Nat} (hk : k < 3) {o p : Ot} (hg : g < wd.heap.size) (hg' : g' < wd.heap.size) (h1 : wd.cell? ⟨g, q + k * 4, none⟩ = some (.int .u8 o.k) ∧ wd.cell? ⟨g, q + k * 4 + 1, none⟩ = some (.int .i64 o.n) ∧ wd.cell? ⟨g, q + k * 4 + 2, none⟩ = some (.string o.s) ∧ wd.cell? ⟨g, q + k * 4 + 3, none⟩ = some (.int .i64 o.e)) (h2 : wd.cell? ⟨g', q' + k * 4, none⟩ = some (.int .u8 p.k) ∧ wd.cell? ⟨g', q' + k * 4 + 1, none⟩ = some (.int .i64 p.n) ∧ wd.cell? ⟨g', q' + k * 4 + 2, none⟩ = some (.string p.s) ∧ wd.cell? ⟨g', q' + k * 4 + 3, none⟩ = some (.int .i64 p.e))
    (hN : ∀ W : World, Ret 16 #[.int .u8 22, .slice (some ⟨W.heap.size, 0, none⟩) 1 1] (W.alloc (.cells #[.int .u8 o.k, .int .i64 o.n, .string o.s, .int .i64 o.e] 34)) (ov p.k p.n p.s p.e)) {Q : Exit → Act → World → Prop} {x0 x1 x2 x3 x4 x5 x6 x7 x8 x9 x10 x11 x12 x13 x17 x18 x19 x20 x21 x22 x23 x24 x25 x26 x27 x28 x29 x30 x31 x32 x33 x34 x35 x36 x37 x38 x39 x40 x41 x42 x43 x44 x45 x46 x47 x48 x49 x50 x51 x52 x53 x54 x55 x56 x57 x58 x59 x60 x61 x62 x63 x64 x65 x66 x67 x68 x69 x70 x71 x72 x73 x74 x75 x76 x77 x78 x79 x80 x81 x82 x83 x84 x85 x86 x87 x88 x89 x90 x91 x92 x93 x94 x95 x96 x97 x98 x99 x100 x101 x102 x103 x104 x105 x106 x107 x108 x109 x110 x111 x112 x113 x114 x115 x116 x117 x118 x119 x120 x121 x122 x123 x124 x125 : Value}
    (h : ∀ (y72 y73 y74 y75 y76 y77 y78 y79 y80 y81 y82 : Value) (W' : World), Below wd.heap.size wd W' → Q .normal ⟨#[x0, x1, x2, x3, x4, x5, x6, x7, x8, x9, x10, x11, x12, x13, .slice (some ⟨g, q, none⟩) 3 c, .slice (some ⟨g', q', none⟩) 3 c', .int .i64 k, x17, x18, x19, x20, x21, x22, x23, x24, x25, x26, x27, x28, x29, x30, x31, x32, x33, x34, x35, x36, x37, x38, x39, x40, x41, x42, x43, x44, x45, x46, x47, x48, x49, x50, x51, x52, x53, x54, x55, x56, x57, x58, x59, x60, x61, x62, x63, x64, x65, x66, x67, x68, x69, x70, x71, y72, y73, y74, y75, y76, y77, y78, y79, y80, y81, y82, .bool false, x84, x85, x86, x87, x88, x89, x90, x91, x92, x93, x94, x95, x96, x97, x98, x99, x100, x101, x102, x103, x104, x105, x106, x107, x108, x109, x110, x111, x112, x113, x114, x115, x116, x117, x118, x119, x120, x121, x122, x123, x124, x125], []⟩ W') :
    code15.wp Tryz.prog Q ⟨#[x0, x1, x2, x3, x4, x5, x6, x7, x8, x9, x10, x11, x12, x13, .slice (some ⟨g, q, none⟩) 3 c, .slice (some ⟨g', q', none⟩) 3 c', .int .i64 k, x17, x18, x19, x20, x21, x22, x23, x24, x25, x26, x27, x28, x29, x30, x31, x32, x33, x34, x35, x36, x37, x38, x39, x40, x41, x42, x43, x44, x45, x46, x47, x48, x49, x50, x51, x52, x53, x54, x55, x56, x57, x58, x59, x60, x61, x62, x63, x64, x65, x66, x67, x68, x69, x70, x71, x72, x73, x74, x75, x76, x77, x78, x79, x80, x81, x82, x83, x84, x85, x86, x87, x88, x89, x90, x91, x92, x93, x94, x95, x96, x97, x98, x99, x100, x101, x102, x103, x104, x105, x106, x107, x108, x109, x110, x111, x112, x113, x114, x115, x116, x117, x118, x119, x120, x121, x122, x123, x124, x125], []⟩ wd := by
  have hN2 : ∀ W : World, Ret 16 #[.int .u8 22, .slice (some ⟨W.heap.size, 0, none⟩) 1 1] (W.drew.alloc (.cells #[.int .u8 o.k, .int .i64 o.n, .string o.s, .int .i64 o.e] 34)) (ov p.k p.n p.s p.e) := fun W => hN W.drew
  have KP : Hid (∀ W', Below wd.heap.size wd W' → W'.cell? ⟨g, q + k * 4, none⟩ = some (.int .u8 o.k) ∧ W'.cell? ⟨g, q + k * 4 + 1, none⟩ = some (.int .i64 o.n) ∧ W'.cell? ⟨g, q + k * 4 + 2, none⟩ = some (.string o.s) ∧ W'.cell? ⟨g, q + k * 4 + 3, none⟩ = some (.int .i64 o.e) ∧ W'.cell? ⟨g', q' + k * 4, none⟩ = some (.int .u8 p.k) ∧ W'.cell? ⟨g', q' + k * 4 + 1, none⟩ = some (.int .i64 p.n) ∧ W'.cell? ⟨g', q' + k * 4 + 2, none⟩ = some (.string p.s) ∧ W'.cell? ⟨g', q' + k * 4 + 3, none⟩ = some (.int .i64 p.e)) := fun W' hb => by
    obtain ⟨x0, x1, x2, x3⟩ := h1
    obtain ⟨y0, y1, y2, y3⟩ := h2
    exact ⟨(hb.cell (p := ⟨g, _, none⟩) hg).trans x0, (hb.cell (p := ⟨g, _, none⟩) hg).trans x1, (hb.cell (p := ⟨g, _, none⟩) hg).trans x2, (hb.cell (p := ⟨g, _, none⟩) hg).trans x3,
      (hb.cell (p := ⟨g', _, none⟩) hg').trans y0, (hb.cell (p := ⟨g', _, none⟩) hg').trans y1, (hb.cell (p := ⟨g', _, none⟩) hg').trans y2, (hb.cell (p := ⟨g', _, none⟩) hg').trans y3⟩
  clear h1 h2
  have k0 : (0 : Int) ≤ (k : Int) := by omega
  have k3 : (k : Int) < 3 := by omega
  have k3' : (k : Int) < ((3 : Nat) : Int) := by omega
  conv => arg 2; whnf
  go_region_held3 (fun W' => W'.cell? ⟨g, q + k * 4, none⟩ = some (.int .u8 o.k) ∧ W'.cell? ⟨g, q + k * 4 + 1, none⟩ = some (.int .i64 o.n) ∧ W'.cell? ⟨g, q + k * 4 + 2, none⟩ = some (.string o.s) ∧ W'.cell? ⟨g, q + k * 4 + 3, none⟩ = some (.int .i64 o.e) ∧ W'.cell? ⟨g', q' + k * 4, none⟩ = some (.int .u8 p.k) ∧ W'.cell? ⟨g', q' + k * 4 + 1, none⟩ = some (.int .i64 p.n) ∧ W'.cell? ⟨g', q' + k * 4 + 2, none⟩ = some (.string p.s) ∧ W'.cell? ⟨g', q' + k * 4 + 3, none⟩ = some (.int .i64 p.e)) (exact KP.out _ (by repeat (first | exact Below.refl _ _ | assumption | exact Go.Proofs.YtefelelhgepkeaaGreatDoor.V.below_drewN _ _ | (refine bel_trans ?_ (Go.Proofs.YtefelelhgepkeaaGreatDoor.V.below_drewN _ _)) | (refine bel_trans ?_ (by assumption)) | (with_reducible apply bel_alloc) | (with_reducible apply Below.drew) | apply bel_alloc | apply Below.drew | refine bel_set ?_ (by simp; try omega) _)))
    (first | (go_at_call 16; first | (refine (hN _).mono ?_; rintro e v1 ⟨rfl, hv1⟩) | (refine (hN2 _).mono ?_; rintro e v1 ⟨rfl, hv1⟩)) | (go_at_call 18; with_reducible refine (same_self p _).mono ?_; rintro e v2 ⟨rfl, hv2⟩))
  have BE : Below wd.heap.size wd v2 := (by repeat (first | exact Below.refl _ _ | assumption | exact Go.Proofs.YtefelelhgepkeaaGreatDoor.V.below_drewN _ _ | (refine bel_trans ?_ (Go.Proofs.YtefelelhgepkeaaGreatDoor.V.below_drewN _ _)) | (refine bel_trans ?_ (by assumption)) | (with_reducible apply bel_alloc) | (with_reducible apply Below.drew) | apply bel_alloc | apply Below.drew | refine bel_set ?_ (by simp; try omega) _))
  exact h _ _ _ _ _ _ _ _ _ _ _ _ BE
end Go.Proofs.YtefelelhgepkeaaGreatDoor.T
