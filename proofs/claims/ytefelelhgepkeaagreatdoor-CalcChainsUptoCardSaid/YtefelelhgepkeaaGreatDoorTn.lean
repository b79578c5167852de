/- The law about chains: the statement that draws its order. -/
import Derived.Test.YtefelelhgepkeaaGreatDoorTl
import Derived.Test.YtefelelhgepkeaaGreatDoorTk
namespace Go.Proofs.YtefelelhgepkeaaGreatDoor.T
open Go.ChangeShapes Go.WideShapes Go.ChangeAt Go.RowKit Go.Proofs.YtefelelhgepkeaaGreatDoor.V Go.Proofs.YtefelelhgepkeaaGreatDoor.K Go.Proofs.YtefelelhgepkeaaGreatDoor.KD
/-- The region with this number. -/
def regionOf (n : Nat) : Code → Option Code
  | .region i o b => if i = n then some (.region i o b) else none
  | .seq a b => match regionOf n a with
    | some c => some c
    | none => regionOf n b
  | .block _ c => regionOf n c
  | .scope c => regionOf n c
  | .loop c => regionOf n c
  | .cond _ a b => match regionOf n a with
    | some c => some c
    | none => regionOf n b
  | _ => none
noncomputable def code14 : Code := (Tryz.f7.body.bind (regionOf 14)).getD .skip
set_option maxRecDepth 1000000 in
set_option maxHeartbeats 8000000 in
theorem reg14 {W0 wd : World} {z3 z4 p3 q3 p4 q4 y3 y4 : Ot} {a b a3 a6 : Option Addr} {n c m d m3 c3 m6 c6 : Nat} {L : List Ot} (hF : Facts W0 z3 z4 p3 q3 p4 q4 y3 y4 a n c b m d a3 m3 c3 a6 m6 c6 L) (hD : Below W0.heap.size W0 wd)
    {b8 b9 b10 b11 : Nat} (hY8 : Box wd b8 z3) (hY9 : Box wd b9 z4) (hY10 : Box wd b10 z3) (hY11 : Box wd b11 z4) {Q : Exit → Act → World → Prop} {x0 x1 x2 x3 x4 x6 x7 x12 x13 x14 x15 x16 x17 x18 x19 x20 x21 x22 x23 x24 x25 x26 x27 x28 x29 x30 x31 x32 x33 x34 x35 x36 x37 x38 x39 x40 x41 x42 x43 x44 x45 x46 x47 x48 x49 x50 x51 x52 x53 x54 x55 x56 x57 x58 x59 x60 x61 x62 x63 x64 x65 x66 x67 x68 x69 x70 x71 x72 x73 x74 x75 x76 x77 x78 x79 x80 x81 x82 x83 x84 x85 x86 x87 x88 x89 x90 x91 x92 x93 x94 x95 x96 x97 x98 x99 x100 x101 x102 x103 x104 x105 x106 : Value}
    (h : ∀ (y58 y59 y60 y61 y62 y63 y64 y65 y66 y67 y68 y69 y70 y71 y72 y73 y74 y75 y76 y77 y78 y79 y80 y81 y82 : Value) (W' : World), Below wd.heap.size wd W' → Q .normal ⟨#[x0, x1, x2, x3, x4, .slice a3 m3 c3, x6, x7, .pointer (some ⟨b8, 0, none⟩), .pointer (some ⟨b9, 0, none⟩), .pointer (some ⟨b10, 0, none⟩), .pointer (some ⟨b11, 0, none⟩), x12, x13, x14, x15, x16, x17, x18, x19, x20, x21, x22, x23, x24, x25, x26, x27, x28, x29, x30, x31, x32, x33, x34, x35, x36, x37, x38, x39, x40, x41, x42, x43, x44, x45, x46, x47, x48, x49, x50, x51, x52, x53, x54, x55, x56, x57, y58, y59, y60, y61, y62, y63, y64, y65, y66, y67, y68, y69, y70, y71, y72, y73, y74, y75, y76, y77, y78, y79, y80, y81, y82, .bool false, x84, x85, x86, x87, x88, x89, x90, x91, x92, x93, x94, x95, x96, x97, x98, x99, x100, x101, x102, x103, x104, x105, x106], []⟩ W') :
    code14.wp Tryz.prog Q ⟨#[x0, x1, x2, x3, x4, .slice a3 m3 c3, x6, x7, .pointer (some ⟨b8, 0, none⟩), .pointer (some ⟨b9, 0, none⟩), .pointer (some ⟨b10, 0, none⟩), .pointer (some ⟨b11, 0, none⟩), x12, x13, x14, x15, x16, x17, x18, x19, x20, x21, x22, x23, x24, x25, x26, x27, x28, x29, x30, x31, x32, x33, x34, x35, x36, x37, x38, x39, x40, x41, x42, x43, x44, x45, x46, x47, x48, x49, x50, x51, x52, x53, x54, x55, x56, x57, x58, x59, x60, x61, x62, x63, x64, x65, x66, x67, x68, x69, x70, x71, x72, x73, x74, x75, x76, x77, x78, x79, x80, x81, x82, x83, x84, x85, x86, x87, x88, x89, x90, x91, x92, x93, x94, x95, x96, x97, x98, x99, x100, x101, x102, x103, x104, x105, x106], []⟩ wd := by
  have HF := Lib.hid hF
  have BD := Lib.hid hD
  have KP : Hid (∀ W', Below wd.heap.size wd W' → W'.cell? ⟨b8, 0, none⟩ = some (.int .u8 z3.k) ∧ W'.cell? ⟨b8, 1, none⟩ = some (.int .i64 z3.n) ∧ W'.cell? ⟨b8, 2, none⟩ = some (.string z3.s) ∧ W'.cell? ⟨b8, 3, none⟩ = some (.int .i64 z3.e) ∧ W'.cell? ⟨b9, 0, none⟩ = some (.int .u8 z4.k) ∧ W'.cell? ⟨b9, 1, none⟩ = some (.int .i64 z4.n) ∧ W'.cell? ⟨b9, 2, none⟩ = some (.string z4.s) ∧ W'.cell? ⟨b9, 3, none⟩ = some (.int .i64 z4.e) ∧ W'.cell? ⟨b10, 0, none⟩ = some (.int .u8 z3.k) ∧ W'.cell? ⟨b10, 1, none⟩ = some (.int .i64 z3.n) ∧ W'.cell? ⟨b10, 2, none⟩ = some (.string z3.s) ∧ W'.cell? ⟨b10, 3, none⟩ = some (.int .i64 z3.e) ∧ W'.cell? ⟨b11, 0, none⟩ = some (.int .u8 z4.k) ∧ W'.cell? ⟨b11, 1, none⟩ = some (.int .i64 z4.n) ∧ W'.cell? ⟨b11, 2, none⟩ = some (.string z4.s) ∧ W'.cell? ⟨b11, 3, none⟩ = some (.int .i64 z4.e)) := fun W' hb => by
    obtain ⟨x0, x1, x2, x3⟩ := cells4 hY8 hb
    obtain ⟨y0, y1, y2, y3⟩ := cells4 hY9 hb
    obtain ⟨t0, t1, t2, t3⟩ := cells4 hY10 hb
    obtain ⟨s0, s1, s2, s3⟩ := cells4 hY11 hb
    exact ⟨x0, x1, x2, x3, y0, y1, y2, y3, t0, t1, t2, t3, s0, s1, s2, s3⟩
  clear hF hD hY8 hY9 hY10 hY11
  conv => arg 2; whnf
  go_region_held3 (fun W' => W'.cell? ⟨b8, 0, none⟩ = some (.int .u8 z3.k) ∧ W'.cell? ⟨b8, 1, none⟩ = some (.int .i64 z3.n) ∧ W'.cell? ⟨b8, 2, none⟩ = some (.string z3.s) ∧ W'.cell? ⟨b8, 3, none⟩ = some (.int .i64 z3.e) ∧ W'.cell? ⟨b9, 0, none⟩ = some (.int .u8 z4.k) ∧ W'.cell? ⟨b9, 1, none⟩ = some (.int .i64 z4.n) ∧ W'.cell? ⟨b9, 2, none⟩ = some (.string z4.s) ∧ W'.cell? ⟨b9, 3, none⟩ = some (.int .i64 z4.e) ∧ W'.cell? ⟨b10, 0, none⟩ = some (.int .u8 z3.k) ∧ W'.cell? ⟨b10, 1, none⟩ = some (.int .i64 z3.n) ∧ W'.cell? ⟨b10, 2, none⟩ = some (.string z3.s) ∧ W'.cell? ⟨b10, 3, none⟩ = some (.int .i64 z3.e) ∧ W'.cell? ⟨b11, 0, none⟩ = some (.int .u8 z4.k) ∧ W'.cell? ⟨b11, 1, none⟩ = some (.int .i64 z4.n) ∧ W'.cell? ⟨b11, 2, none⟩ = some (.string z4.s) ∧ W'.cell? ⟨b11, 3, none⟩ = some (.int .i64 z4.e)) (exact KP.out _ (by repeat (first | exact Below.refl _ _ | assumption | exact Go.Proofs.YtefelelhgepkeaaGreatDoor.V.below_drewN _ _ | (refine bel_trans ?_ (Go.Proofs.YtefelelhgepkeaaGreatDoor.V.below_drewN _ _)) | (refine bel_trans ?_ (by assumption)) | (with_reducible apply bel_alloc) | (with_reducible apply Below.drew) | apply bel_alloc | apply Below.drew | refine bel_set ?_ (by simp; try omega) _)))
    (first | (go_at_call 18; first | (with_reducible refine (same_self z3 _).mono ?_; rintro e v1 ⟨rfl, hv1⟩) | (with_reducible refine (same_self z4 _).mono ?_; rintro e v2 ⟨rfl, hv2⟩)) | (go_at_call 27; refine (HF.out.tur _ (bel_trans BD.out (by repeat (first | exact Below.refl _ _ | assumption | exact Go.Proofs.YtefelelhgepkeaaGreatDoor.V.below_drewN _ _ | (refine bel_trans ?_ (Go.Proofs.YtefelelhgepkeaaGreatDoor.V.below_drewN _ _)) | (refine bel_trans ?_ (by assumption)) | (with_reducible apply bel_alloc) | (with_reducible apply Below.drew) | apply bel_alloc | apply Below.drew | refine bel_set ?_ (by simp; try omega) _)))).mono ?_; rintro e v3 ⟨⟨a7, c7, rfl, hT⟩, hv3⟩; have HTT := Lib.hid hT; clear hT) | (go_at_call 16; first | (with_reducible refine (HF.out.rev3 _ _ _ HTT.out).mono ?_; rintro e v4 ⟨rfl, hv4⟩) | (with_reducible refine (HF.out.rev4 _ _ _ HTT.out).mono ?_; rintro e v5 ⟨rfl, hv5⟩)))
  have BE : Below wd.heap.size wd v2 := (by repeat (first | exact Below.refl _ _ | assumption | exact Go.Proofs.YtefelelhgepkeaaGreatDoor.V.below_drewN _ _ | (refine bel_trans ?_ (Go.Proofs.YtefelelhgepkeaaGreatDoor.V.below_drewN _ _)) | (refine bel_trans ?_ (by assumption)) | (with_reducible apply bel_alloc) | (with_reducible apply Below.drew) | apply bel_alloc | apply Below.drew | refine bel_set ?_ (by simp; try omega) _))
  exact h _ _ _ _ _ _ _ _ _ _ _ _ _ _ _ _ _ _ _ _ _ _ _ _ _ _ BE
end Go.Proofs.YtefelelhgepkeaaGreatDoor.T
