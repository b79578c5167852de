/- The reference's In. -/
import Derived.Test.YtefelelhgepkeaaGreatDoorSb
namespace Go.Proofs.YtefelelhgepkeaaGreatDoor.S
open Go.ChangeShapes Go.WideShapes Go.ChangeAt Go.RowKit Go.Proofs.YtefelelhgepkeaaGreatDoor.V Go.Proofs.YtefelelhgepkeaaGreatDoor.K
def hdr (x : Rw) : Vl := hd x.2
theorem inL_drop {x : Ot} {l : List Rw} {k : Nat} {r : Rw} {v : Vl} (h : l[k]? = some r) (hv : hdr r = v) (nl : Bool) :
    inL x nl ((l.drop k).map hdr) = if isN x || v.1 == 0 then inL x true ((l.drop (k + 1)).map hdr) else if same x.k x.n x.s v.1 v.2.1 v.2.2 then bo true else inL x nl ((l.drop (k + 1)).map hdr) := by
  rw [List.drop_eq_getElem_cons (List.getElem?_eq_some_iff.1 h).1, List.map_cons, (List.getElem?_eq_some_iff.1 h).2, hv, inL]
set_option maxRecDepth 100000 in
set_option maxHeartbeats 8000000 in
theorem r_In (x : Ot) (a : Option Addr) (n c : Nat) (e : Int) (l : List Rw) (hn : n ≤ 9223372036854775000) (w : World) (h : Rows2 w a n l) (hr : ∀ x ∈ l, x.1.2.1 ≤ 9223372036854775000) :
    Ret 20 #[ov x.k x.n x.s x.e, outV a n c e] w (enc (inO x e (l.map (·.2)))) := by
  have HL := Lib.hid h
  have hlen := Lib.hid h.one.len
  have hX : ∀ w, Ret 25 #[ov x.k x.n x.s x.e] w (.bool x.ok) := fun w => r_ValidO x w
  have hSg := Lib.hid (fun w' (hb : Below w.heap.size w w') => r_single a n c e l hn w' (h.below hb) hr)
  clear h hr
  cases hx : x.ok with
  | false =>
    rw [hx] at hX
    have HR : Hid (inO x e (l.map (·.2)) = fl 1) := by show _ = _; unfold inO; rw [hx]; rfl
    clear hx
    go_enter Tryz.func20, Tryz.ntmps20
    go_wp2_with fail
    refine (hX _).mono ?_; rintro e w1 ⟨rfl, hbw1⟩; obtain ⟨hcw1, hfw1⟩ := bcell hbw1; have hzw1 := hbw1.size; (try simp at hzw1); have hk0w1 : w.heap.size < w1.heap.size := (by omega); have hk1w1 : w.heap.size + 1 < w1.heap.size := (by omega); have hk2w1 : w.heap.size + 1 + 1 < w1.heap.size := (by omega)
    go_wp2_with fail
    refine (r_Fail 1 _).mono ?_; rintro e w2 ⟨rfl, hbw2⟩; obtain ⟨hcw2, hfw2⟩ := bcell hbw2; have hzw2 := hbw2.size; (try simp at hzw2); have hk0w2 : w.heap.size < w2.heap.size := (by omega); have hk1w2 : w.heap.size + 1 < w2.heap.size := (by omega); have hk2w2 : w.heap.size + 1 + 1 < w2.heap.size := (by omega)
    go_wp2
    exact bodyPost_ret (v := ov 0 0 ⟨#[]⟩ 1) (by simp [results, Tryz.results20, go_sem, *]) rfl ⟨ret_v (by rw [HR.out]), by repeat (first | exact Below.refl _ _ | assumption | exact Go.Proofs.YtefelelhgepkeaaGreatDoor.V.below_drewN _ _ | (refine bel_trans ?_ (Go.Proofs.YtefelelhgepkeaaGreatDoor.V.below_drewN _ _)) | (refine bel_trans ?_ (by assumption)) | (with_reducible apply bel_alloc) | (with_reducible apply Below.drew) | apply bel_alloc | apply Below.drew | refine bel_set ?_ (by simp; try omega) _)⟩
  | true =>
    rw [hx] at hX
    cases hc : okCol e (l.map (·.2)) with
    | false =>
      have HR : Hid (inO x e (l.map (·.2)) = fl 1) := by show _ = _; unfold inO; rw [hx, hc]; rfl
      have hSg' : ∀ w', Below w.heap.size w w' → Ret 57 #[outV a n c e] w' (.bool false) := fun w' hb => by have := hSg.out w' hb; rwa [hc] at this
      clear hx hc hSg
      go_enter Tryz.func20, Tryz.ntmps20
      go_wp2_with fail
      refine (hX _).mono ?_; rintro e w1 ⟨rfl, hbw1⟩; obtain ⟨hcw1, hfw1⟩ := bcell hbw1; have hzw1 := hbw1.size; (try simp at hzw1); have hk0w1 : w.heap.size < w1.heap.size := (by omega); have hk1w1 : w.heap.size + 1 < w1.heap.size := (by omega); have hk2w1 : w.heap.size + 1 + 1 < w1.heap.size := (by omega)
      have B1 : Below w.heap.size w w1 := by repeat (first | exact Below.refl _ _ | assumption | exact Go.Proofs.YtefelelhgepkeaaGreatDoor.V.below_drewN _ _ | (refine bel_trans ?_ (Go.Proofs.YtefelelhgepkeaaGreatDoor.V.below_drewN _ _)) | (refine bel_trans ?_ (by assumption)) | (with_reducible apply bel_alloc) | (with_reducible apply Below.drew) | apply bel_alloc | apply Below.drew | refine bel_set ?_ (by simp; try omega) _)
      go_wp2_with fail
      refine (hSg' _ B1).mono ?_; rintro e w2 ⟨rfl, hbw2⟩; obtain ⟨hcw2, hfw2⟩ := bcell hbw2; have hzw2 := hbw2.size; (try simp at hzw2); have hk0w2 : w.heap.size < w2.heap.size := (by omega); have hk1w2 : w.heap.size + 1 < w2.heap.size := (by omega); have hk2w2 : w.heap.size + 1 + 1 < w2.heap.size := (by omega)
      go_wp2_with fail
      refine (r_Fail 1 _).mono ?_; rintro e w3 ⟨rfl, hbw3⟩; obtain ⟨hcw3, hfw3⟩ := bcell hbw3; have hzw3 := hbw3.size; (try simp at hzw3); have hk0w3 : w.heap.size < w3.heap.size := (by omega); have hk1w3 : w.heap.size + 1 < w3.heap.size := (by omega); have hk2w3 : w.heap.size + 1 + 1 < w3.heap.size := (by omega)
      go_wp2
      exact bodyPost_ret (v := ov 0 0 ⟨#[]⟩ 1) (by simp [results, Tryz.results20, go_sem, *]) rfl ⟨ret_v (by rw [HR.out]), by repeat (first | exact Below.refl _ _ | assumption | exact Go.Proofs.YtefelelhgepkeaaGreatDoor.V.below_drewN _ _ | (refine bel_trans ?_ (Go.Proofs.YtefelelhgepkeaaGreatDoor.V.below_drewN _ _)) | (refine bel_trans ?_ (by assumption)) | (with_reducible apply bel_alloc) | (with_reducible apply Below.drew) | apply bel_alloc | apply Below.drew | refine bel_set ?_ (by simp; try omega) _)⟩
    | true =>
      have hSg' : ∀ w', Below w.heap.size w w' → Ret 57 #[outV a n c e] w' (.bool true) := fun w' hb => by have := hSg.out w' hb; rwa [hc] at this
      clear hSg
      by_cases he : lst x.e e = 0
      · have HR : Hid (inO x e (l.map (·.2)) = inL x false (l.map hdr)) := by
          show _ = _; unfold inO; rw [hx, hc, Bool.true_and, if_pos rfl, if_neg (by simpa using he), List.map_map]; rfl
        have HC : Hid (∀ r ∈ l, r.2.length = 1) := fun r hr => by
          have h2 := hc
          rw [okCol1, Bool.and_eq_true] at h2
          have h3 := List.all_eq_true.1 h2.1 r hr
          simpa [one1] using h3
        have hLs : ∀ w, Ret 44 #[.int .i64 x.e, .int .i64 e] w (.int .i64 0) := fun w => by have := r_Least x.e e w; rwa [he] at this
        clear hx hc he
        go_enter Tryz.func20, Tryz.ntmps20
        go_wp2_with fail
        refine (hX _).mono ?_; rintro e w1 ⟨rfl, hbw1⟩; obtain ⟨hcw1, hfw1⟩ := bcell hbw1; have hzw1 := hbw1.size; (try simp at hzw1); have hk0w1 : w.heap.size < w1.heap.size := (by omega); have hk1w1 : w.heap.size + 1 < w1.heap.size := (by omega); have hk2w1 : w.heap.size + 1 + 1 < w1.heap.size := (by omega)
        have B1 : Below w.heap.size w w1 := by repeat (first | exact Below.refl _ _ | assumption | exact Go.Proofs.YtefelelhgepkeaaGreatDoor.V.below_drewN _ _ | (refine bel_trans ?_ (Go.Proofs.YtefelelhgepkeaaGreatDoor.V.below_drewN _ _)) | (refine bel_trans ?_ (by assumption)) | (with_reducible apply bel_alloc) | (with_reducible apply Below.drew) | apply bel_alloc | apply Below.drew | refine bel_set ?_ (by simp; try omega) _)
        go_wp2_with fail
        refine (hSg' _ B1).mono ?_; rintro e w2 ⟨rfl, hbw2⟩; obtain ⟨hcw2, hfw2⟩ := bcell hbw2; have hzw2 := hbw2.size; (try simp at hzw2); have hk0w2 : w.heap.size < w2.heap.size := (by omega); have hk1w2 : w.heap.size + 1 < w2.heap.size := (by omega); have hk2w2 : w.heap.size + 1 + 1 < w2.heap.size := (by omega)
        go_wp2_with fail
        refine (hLs _).mono ?_; rintro e w3 ⟨rfl, hbw3⟩; obtain ⟨hcw3, hfw3⟩ := bcell hbw3; have hzw3 := hbw3.size; (try simp at hzw3); have hk0w3 : w.heap.size < w3.heap.size := (by omega); have hk1w3 : w.heap.size + 1 < w3.heap.size := (by omega); have hk2w3 : w.heap.size + 1 + 1 < w3.heap.size := (by omega)
        have HB0 : Hid (Below w.heap.size w w3) := by repeat (first | exact Below.refl _ _ | assumption | exact Go.Proofs.YtefelelhgepkeaaGreatDoor.V.below_drewN _ _ | (refine bel_trans ?_ (Go.Proofs.YtefelelhgepkeaaGreatDoor.V.below_drewN _ _)) | (refine bel_trans ?_ (by assumption)) | (with_reducible apply bel_alloc) | (with_reducible apply Below.drew) | apply bel_alloc | apply Below.drew | refine bel_set ?_ (by simp; try omega) _)
        have P0 : Hid (Box w3 w.heap.size x) := (((((Box.new w x).alloc _).alloc _).below hbw1).below hbw2).below hbw3
        have e2 : ((w.alloc (.cells #[.int .u8 x.k, .int .i64 x.n, .string x.s, .int .i64 x.e] 34)).alloc (.cells #[.slice a n c, .int .i64 e] 41)).heap.size = w.heap.size + 1 + 1 := by simp
        have P2' := Box.new ((w.alloc (.cells #[.int .u8 x.k, .int .i64 x.n, .string x.s, .int .i64 x.e] 34)).alloc (.cells #[.slice a n c, .int .i64 e] 41)) nul
        rw [e2] at P2'
        have P2 : Hid (Box w3 (w.heap.size + 1 + 1) nul) := ((P2'.below hbw1).below hbw2).below hbw3
        have P1 : w3.cell? ⟨w.heap.size + 1, 0, none⟩ = some (.slice a n c) := (hbw3.cell (p := ⟨w.heap.size + 1, 0, none⟩) hk1w2).trans ((hbw2.cell (p := ⟨w.heap.size + 1, 0, none⟩) hk1w1).trans ((hbw1.cell (p := ⟨w.heap.size + 1, 0, none⟩) (by simp)).trans (by simp [go_sem])))
        clear P2' e2 hbw1 hcw1 hfw1 hzw1 hbw2 hcw2 hfw2 hzw2 hbw3 hcw3 hfw3 hzw3 hX hSg' hLs B1
        have hN : ∀ w, Ret 45 #[ov x.k x.n x.s x.e] w (.bool (isN x)) := fun w => r_isNull x w
        go_wp2_with fail
        go_loopw [6, 7, 8] (fun s6 s7 s8 wr => ∃ (k : Nat) (nl : Bool), k ≤ n ∧ s6 = .bool nl ∧ s7 = .int .i64 k ∧ Hid (inL x nl ((l.drop k).map hdr) = inL x false (l.map hdr)) ∧ Hid (Box wr w.heap.size x) ∧ wr.cell? ⟨w.heap.size + 1, 0, none⟩ = some (.slice a n c) ∧
            w.heap.size + 1 < wr.heap.size ∧ Hid (Box wr (w.heap.size + 1 + 1) nul) ∧ Hid (Below w.heap.size w wr)) (fun _ s7 _ _ => n - (intOf s7).toNat)
        case atStart => exact ⟨0, false, by omega, rfl, rfl, rfl, P0.out, P1, hk1w3, P2.out, HB0.out⟩
        case round =>
          clear P0 P1 P2 HB0 hk0w1 hk1w1 hk2w1 hk0w2 hk1w2 hk2w2 hk0w3 hk1w3 hk2w3
          obtain ⟨k, nl, hk, rfl, rfl, HI, X0, b1c, hk1, X2, HB⟩ := hrel
          by_cases hlt : k < n
          · obtain ⟨g, p, r, rfl, hlk, hg, c0⟩ := (HL.out.below HB.out).one.at_ k hlt
            have hrl := List.mem_of_getElem? hlk
            obtain ⟨hv, -⟩ := (HL.out.below HB.out).row r hrl
            have hone := HC.out r hrl
            obtain ⟨⟨ra, rn, rc⟩, vs⟩ := r
            have hrn : rn = 1 := hv.len.trans hone
            subst hrn
            obtain ⟨g2, p2, v, hra, hv0, hg2, d0, d1, d2⟩ := hv.at_ 0 (show 0 < 1 by decide)
            have hra' : ra = some ⟨g2, p2, none⟩ := hra
            subst hra'
            replace c0 : wr.cell? ⟨g, p + k, none⟩ = some (.slice (some ⟨g2, p2, none⟩) 1 rc) := c0
            have hh : hdr ((some ⟨g2, p2, none⟩, 1, rc), vs) = v := by
              match vs, hv0 with
              | u :: t, hv0 => exact Option.some.inj hv0
            have HI2 := Lib.hid ((inL_drop hlk hh nl).symm.trans HI.out)
            obtain ⟨v1, v2, v3⟩ := v
            replace d0 : wr.cell? ⟨g2, p2, none⟩ = some (.int .u8 v1) := by simpa using d0
            replace d1 : wr.cell? ⟨g2, p2 + 1, none⟩ = some (.int .i64 v2) := by simpa using d1
            replace d2 : wr.cell? ⟨g2, p2 + 2, none⟩ = some (.string v3) := by simpa using d2
            clear HI hlk hv hv0 hone hh hra hrl
            obtain ⟨hx0, y0, y1, y2, y3, -, -, -, -⟩ := X0.out
            have hSm : ∀ w, Ret 31 #[val x.k x.n x.s, val v1 v2 v3] w (.bool (same x.k x.n x.s v1 v2 v3)) := fun w => r_Same _ _ _ _ _ _ w
            go_wp2_with fail
            refine (hN _).mono ?_
            rintro e w1 ⟨rfl, hb1⟩
            have Bv : Hid (Below w.heap.size w w1) := bel_trans (bel_alloc HB.out _) hb1
            have hbw : Below wr.heap.size wr w1 := bel_trans (bel_alloc (Below.refl _ _) _) hb1
            have X0' := Lib.hid (X0.out.below hbw)
            have X2' := Lib.hid (X2.out.below hbw)
            have b1c' := (hbw.cell (p := ⟨w.heap.size + 1, 0, none⟩) hk1).trans b1c
            have hk1' : w.heap.size + 1 < w1.heap.size := Nat.lt_of_lt_of_le hk1 hbw.size
            have f0 : w1.cell? ⟨wr.heap.size, 0, none⟩ = some (.int .u8 v1) := (hb1.cell (p := ⟨wr.heap.size, 0, none⟩) (by simp)).trans (by simp [go_sem])
            have f1 : w1.cell? ⟨wr.heap.size, 1, none⟩ = some (.int .i64 v2) := (hb1.cell (p := ⟨wr.heap.size, 1, none⟩) (by simp)).trans (by simp [go_sem])
            have f2 : w1.cell? ⟨wr.heap.size, 2, none⟩ = some (.string v3) := (hb1.cell (p := ⟨wr.heap.size, 2, none⟩) (by simp)).trans (by simp [go_sem])
            obtain ⟨hx0', y0', y1', y2', y3', -, -, -, -⟩ := X0'.out
            clear hb1 hbw y0 y1 y2 y3 d0 d1 d2 c0
            cases hN1 : isN x with
            | true =>
              have HI3 : Hid (inL x true ((l.drop (k + 1)).map hdr) = inL x false (l.map hdr)) := by
                have h := HI2.out
                rw [hN1, Bool.true_or, if_pos rfl] at h
                exact h
              clear HI2 hN1
              go_wp2
              refine ⟨⟨k + 1, true, by omega, rfl, by go_num, HI3.out, X0'.out, b1c', hk1', X2'.out, Bv.out⟩, by simp [intOf]; omega⟩
            | false =>
              by_cases h0 : v1 = 0
              · have HI3 : Hid (inL x true ((l.drop (k + 1)).map hdr) = inL x false (l.map hdr)) := by
                  have h := HI2.out
                  rw [if_pos (by simp [h0])] at h
                  exact h
                subst h0
                clear HI2 hN1
                go_wp2
                refine ⟨⟨k + 1, true, by omega, rfl, by go_num, HI3.out, X0'.out, b1c', hk1', X2'.out, Bv.out⟩, by simp [intOf]; omega⟩
              · have h0' : (v1 == 0) = false := by simpa using h0
                have HI3 : Hid ((if same x.k x.n x.s v1 v2 v3 then bo true else inL x nl ((l.drop (k + 1)).map hdr)) = inL x false (l.map hdr)) := by
                  have h := HI2.out
                  rw [hN1, if_neg (by simpa using h0)] at h
                  exact h
                clear HI2 hN1
                go_wp2_with fail
                refine (hSm _).mono ?_
                rintro e w2 ⟨rfl, hb2⟩
                have Bv2 : Hid (Below w.heap.size w w2) := bel_trans Bv.out hb2
                have X02 := Lib.hid (X0'.out.below hb2)
                have X22 := Lib.hid (X2'.out.below hb2)
                have b1c2 := (hb2.cell (p := ⟨w.heap.size + 1, 0, none⟩) hk1').trans b1c'
                have hk12 : w.heap.size + 1 < w2.heap.size := Nat.lt_of_lt_of_le hk1' hb2.size
                clear hb2 f0 f1 f2 y0' y1' y2' y3'
                cases hs : same x.k x.n x.s v1 v2 v3 with
                | true =>
                  have HI4 : Hid (bo true = inL x false (l.map hdr)) := by
                    have h := HI3.out
                    rw [hs, if_pos rfl] at h
                    exact h
                  clear HI3 hs
                  go_wp2_with fail
                  refine (r_Bool5 true _).mono ?_
                  rintro e w3 ⟨rfl, hb3⟩
                  have B3 : Hid (Below w.heap.size w w3) := bel_trans Bv2.out hb3
                  obtain ⟨hx3, s0, s1, s2, s3, t0, t1, t2, t3⟩ := X22.out.below hb3
                  clear hb3
                  go_wp2
                  exact bodyPost_ret (v := ov 3 1 ⟨#[]⟩ 0) (by simp [results, Tryz.results20, go_sem, *]) rfl ⟨ret_v (by rw [HR.out, ← HI4.out]; rfl), bel_set (bel_set (bel_set (bel_set B3.out (by simp; omega) _) (by simp; omega) _) (by simp; omega) _) (by simp; omega) _⟩
                | false =>
                  have HI4 : Hid (inL x nl ((l.drop (k + 1)).map hdr) = inL x false (l.map hdr)) := by
                    have h := HI3.out
                    rw [hs, if_neg (by simp)] at h
                    exact h
                  clear HI3 hs
                  go_wp2
                  refine ⟨⟨k + 1, nl, by omega, rfl, by go_num, HI4.out, X02.out, b1c2, hk12, X22.out, Bv2.out⟩, by simp [intOf]; omega⟩
          · have HI3 : Hid ((if nl then nul else bo false) = inL x false (l.map hdr)) := by
              have h := HI.out
              rw [List.drop_eq_nil_of_le (by have := hlen.out; omega)] at h
              exact h
            clear HI
            cases nl with
            | true =>
              obtain ⟨hx3, s0, s1, s2, s3, t0, t1, t2, t3⟩ := X2.out
              go_wp2
              exact bodyPost_ret (v := ov 0 0 ⟨#[]⟩ 0) (by simp [results, Tryz.results20, go_sem, *]) rfl ⟨ret_v (by rw [HR.out, ← HI3.out]; rfl), bel_set (bel_set (bel_set (bel_set HB.out (by simp; omega) _) (by simp; omega) _) (by simp; omega) _) (by simp; omega) _⟩
            | false =>
              go_wp2_with fail
              refine (r_Bool5 false _).mono ?_
              rintro e w3 ⟨rfl, hb3⟩
              have B3 : Hid (Below w.heap.size w w3) := bel_trans HB.out hb3
              obtain ⟨hx3, s0, s1, s2, s3, t0, t1, t2, t3⟩ := X2.out.below hb3
              clear hb3
              go_wp2
              exact bodyPost_ret (v := ov 3 0 ⟨#[]⟩ 0) (by simp [results, Tryz.results20, go_sem, *]) rfl ⟨ret_v (by rw [HR.out, ← HI3.out]; rfl), bel_set (bel_set (bel_set (bel_set B3.out (by simp; omega) _) (by simp; omega) _) (by simp; omega) _) (by simp; omega) _⟩
      · have HR : Hid (inO x e (l.map (·.2)) = fl (lst x.e e)) := by show _ = _; unfold inO; rw [hx, hc, Bool.true_and, if_pos rfl, if_pos he]
        have he' : (lst x.e e != 0) = true := by simpa using he
        clear hx hc
        go_enter Tryz.func20, Tryz.ntmps20
        go_wp2_with fail
        refine (hX _).mono ?_; rintro e w1 ⟨rfl, hbw1⟩; obtain ⟨hcw1, hfw1⟩ := bcell hbw1; have hzw1 := hbw1.size; (try simp at hzw1); have hk0w1 : w.heap.size < w1.heap.size := (by omega); have hk1w1 : w.heap.size + 1 < w1.heap.size := (by omega); have hk2w1 : w.heap.size + 1 + 1 < w1.heap.size := (by omega)
        have B1 : Below w.heap.size w w1 := by repeat (first | exact Below.refl _ _ | assumption | exact Go.Proofs.YtefelelhgepkeaaGreatDoor.V.below_drewN _ _ | (refine bel_trans ?_ (Go.Proofs.YtefelelhgepkeaaGreatDoor.V.below_drewN _ _)) | (refine bel_trans ?_ (by assumption)) | (with_reducible apply bel_alloc) | (with_reducible apply Below.drew) | apply bel_alloc | apply Below.drew | refine bel_set ?_ (by simp; try omega) _)
        go_wp2_with fail
        refine (hSg' _ B1).mono ?_; rintro e w2 ⟨rfl, hbw2⟩; obtain ⟨hcw2, hfw2⟩ := bcell hbw2; have hzw2 := hbw2.size; (try simp at hzw2); have hk0w2 : w.heap.size < w2.heap.size := (by omega); have hk1w2 : w.heap.size + 1 < w2.heap.size := (by omega); have hk2w2 : w.heap.size + 1 + 1 < w2.heap.size := (by omega)
        go_wp2_with fail
        refine (r_Least _ _ _).mono ?_; rintro e w3 ⟨rfl, hbw3⟩; obtain ⟨hcw3, hfw3⟩ := bcell hbw3; have hzw3 := hbw3.size; (try simp at hzw3); have hk0w3 : w.heap.size < w3.heap.size := (by omega); have hk1w3 : w.heap.size + 1 < w3.heap.size := (by omega); have hk2w3 : w.heap.size + 1 + 1 < w3.heap.size := (by omega)
        go_wp2_with fail
        refine (r_Fail _ _).mono ?_; rintro e w4 ⟨rfl, hbw4⟩; obtain ⟨hcw4, hfw4⟩ := bcell hbw4; have hzw4 := hbw4.size; (try simp at hzw4); have hk0w4 : w.heap.size < w4.heap.size := (by omega); have hk1w4 : w.heap.size + 1 < w4.heap.size := (by omega); have hk2w4 : w.heap.size + 1 + 1 < w4.heap.size := (by omega)
        go_wp2
        exact bodyPost_ret (v := ov 0 0 ⟨#[]⟩ (lst x.e e)) (by simp [results, Tryz.results20, go_sem, *]) rfl ⟨ret_v (by rw [HR.out]), by repeat (first | exact Below.refl _ _ | assumption | exact Go.Proofs.YtefelelhgepkeaaGreatDoor.V.below_drewN _ _ | (refine bel_trans ?_ (Go.Proofs.YtefelelhgepkeaaGreatDoor.V.below_drewN _ _)) | (refine bel_trans ?_ (by assumption)) | (with_reducible apply bel_alloc) | (with_reducible apply Below.drew) | apply bel_alloc | apply Below.drew | refine bel_set ?_ (by simp; try omega) _)⟩
end Go.Proofs.YtefelelhgepkeaaGreatDoor.S
