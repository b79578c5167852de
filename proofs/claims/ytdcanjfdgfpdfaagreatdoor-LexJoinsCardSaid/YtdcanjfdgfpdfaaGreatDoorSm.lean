/- Lists of tokens compared: the reference's SameTokens and the law's same, where they are the same. -/
import Derived.Test.YtdcanjfdgfpdfaaGreatDoorTs
namespace Go.Proofs.YtdcanjfdgfpdfaaGreatDoor.V
open Go.ChangeShapes Go.WideShapes Go.ChangeAt Go.RowKit Go.Shelf
/-- A slice that reads as these tokens. -/
structure ReadsAs (w : World) (a : Option Addr) (n : Nat) (l : List Lx.Tok) : Prop where
  len : l.length = n
  at_ : 0 < n → ∃ g o, a = some ⟨g, o, none⟩ ∧ ∀ (j : Nat) (u : Value), (cellsOf l)[j]? = some u → w.cell? ⟨g, o + j, none⟩ = some u
theorem ReadsAs.below {w w' : World} {a : Option Addr} {n : Nat} {l : List Lx.Tok} (h : ReadsAs w a n l) (hb : Below w.heap.size w w') : ReadsAs w' a n l :=
  ⟨h.len, fun hn => by
    obtain ⟨g, o, ha, hc⟩ := h.at_ hn
    exact ⟨g, o, ha, fun j u hu => cellb hb (hc j u hu)⟩⟩
theorem cellsOf_at : ∀ (l : List Lx.Tok) (k : Nat) (t : Lx.Tok), l[k]? = some t → (cellsOf l)[k * 3]? = some (.int .u8 t.k) ∧ (cellsOf l)[k * 3 + 1]? = some (.string ⟨t.s.toArray⟩) ∧ (cellsOf l)[k * 3 + 2]? = some (.int .i64 t.p)
  | [], k, t, h => by simp at h
  | x :: l, 0, t, h => by
    obtain rfl := Option.some.inj h
    exact ⟨rfl, rfl, rfl⟩
  | x :: l, k + 1, t, h => by
    have ih := cellsOf_at l k t (by simpa using h)
    have e : ∀ i, (cellsOf (x :: l))[(k + 1) * 3 + i]? = (cellsOf l)[k * 3 + i]? := fun i => by
      rw [show (k + 1) * 3 + i = k * 3 + i + 3 by omega]
      rfl
    exact ⟨(e 0).trans ih.1, (e 1).trans ih.2.1, (e 2).trans ih.2.2⟩
theorem ReadsAs.fields {w : World} {a : Option Addr} {n : Nat} {l : List Lx.Tok} (h : ReadsAs w a n l) {k : Nat} (hk : k < n) : ∃ g o t, a = some ⟨g, o, none⟩ ∧ l[k]? = some t ∧
    w.cell? ⟨g, o + k * 3, none⟩ = some (.int .u8 t.k) ∧ w.cell? ⟨g, o + k * 3 + 1, none⟩ = some (.string ⟨t.s.toArray⟩) ∧ w.cell? ⟨g, o + k * 3 + 2, none⟩ = some (.int .i64 t.p) := by
  obtain ⟨g, o, ha, hc⟩ := h.at_ (by omega)
  have ht : l[k]? = some (l[k]'(by rw [h.len]; exact hk)) := List.getElem?_eq_getElem _
  obtain ⟨h0, h1, h2⟩ := cellsOf_at l k _ ht
  exact ⟨g, o, _, ha, ht, hc _ _ h0, hc _ _ h1, hc _ _ h2⟩
/-- A token without its place. -/
def key (t : Lx.Tok) : Int × Lx.Bs := (t.k, t.s)
theorem below_drewN (w : World) (n : Nat) : Below w.heap.size w (w.drewN n) := ⟨rfl, rfl, rfl, Nat.le_refl _, fun _ _ => rfl⟩
set_option maxHeartbeats 1000000 in
theorem r_SameTokens (a b : Option Addr) (n ca cb : Nat) (la lb : List Lx.Tok) (w : World) (hn : n ≤ 9223372036854775807) (ha : ReadsAs w a n la) (hb : ReadsAs w b n lb) (he : la.map key = lb.map key) :
    Calls Tryz.prog 11 #[.slice a n ca, .slice b n cb] w fun e w' => e = .returned (.bool true) ∧ Below w.heap.size w w' := by
  have HA := Lib.hid ha
  have HB := Lib.hid hb
  have HE := Lib.hid he
  clear ha hb he
  go_enter Tryz.func11, Tryz.ntmps11
  go_wp2
  go_loopw [5] (fun s5 wr => ∃ (k q : Nat), k ≤ n ∧ s5 = .int .i64 k ∧ wr = w.drewN q) (fun s5 _ => n - (intOf s5).toNat)
  case atStart => exact ⟨0, 0, by omega, rfl, rfl⟩
  case round =>
    obtain ⟨k, q, hk, rfl, rfl⟩ := hrel
    by_cases hlt : k < n
    · obtain ⟨ga, oa, t, rfl, hta, a0, a1, a2⟩ := HA.out.fields hlt
      obtain ⟨gb, ob, u, rfl, htb, b0, b1, b2⟩ := HB.out.fields hlt
      have hku : t.k = u.k ∧ t.s = u.s := by
        have h1 : (la.map key)[k]? = some (key t) := by rw [List.getElem?_map, hta]; rfl
        have h2 : (lb.map key)[k]? = some (key u) := by rw [List.getElem?_map, htb]; rfl
        rw [HE.out, h2] at h1
        have := Option.some.inj h1
        simp only [key, Prod.mk.injEq] at this
        exact ⟨this.1.symm, this.2.symm⟩
      rw [← hku.1] at b0
      rw [← hku.2] at b1
      obtain ⟨kk, hkk⟩ : ∃ kk, t.k = kk := ⟨_, rfl⟩
      obtain ⟨ss, hss⟩ : ∃ ss : ByteArray, (⟨t.s.toArray⟩ : ByteArray) = ss := ⟨_, rfl⟩
      rw [hkk] at a0 b0
      rw [hss] at a1 b1
      clear hkk hss hku hta htb a2 b2
      have g1 : (kk != kk) = false := by simp
      have g2 : (ss.toList != ss.toList) = false := by simp
      go_wp2
      go_quiet (fail)
      go_wp2
      go_roundw
      case rel => exact ⟨k + 1, _, by omega, by go_num, rfl⟩
      case measure => simp [intOf]; omega
    · go_wp2
      go_ret
      exact ⟨rfl, below_drewN _ _⟩
set_option maxHeartbeats 1000000 in
theorem l_same (a b : Option Addr) (n ca cb d : Nat) (la : List Lx.Tok) (w : World) (hn : n ≤ 9223372036854775807) (hd : d ≤ 4000) (hp : ∀ t ∈ la, t.p ≤ 4000) (ha : ReadsAs w a n la) (hb : ReadsAs w b n (la.map (Lx.Tok.later d))) :
    Calls Tryz.prog 7 #[.slice a n ca, .slice b n cb, .int .i64 d] w fun e w' => e = .returned (.bool true) ∧ Below w.heap.size w w' := by
  have HS := Lib.hid (r_SameTokens a b n ca cb la (la.map (Lx.Tok.later d)) w hn ha hb (by rw [List.map_map]; rfl))
  have HA := Lib.hid ha
  have HB := Lib.hid hb
  have HP := Lib.hid hp
  clear ha hb hp
  go_enter Tryz.func7, Tryz.ntmps7
  go_wp2_with fail
  refine HS.out.mono ?_
  rintro e w1 ⟨rfl, hb1⟩
  have HA1 := Lib.hid (HA.out.below hb1)
  have HB1 := Lib.hid (HB.out.below hb1)
  clear HA HB HS
  go_wp2
  go_loopw [7] (fun s7 wr => ∃ (k q : Nat), k ≤ n ∧ s7 = .int .i64 k ∧ wr = w1.drewN q) (fun s7 _ => n - (intOf s7).toNat)
  case atStart => exact ⟨0, 0, by omega, rfl, rfl⟩
  case round =>
    obtain ⟨k, q, hk, rfl, rfl⟩ := hrel
    by_cases hlt : k < n
    · obtain ⟨ga, oa, t, rfl, hta, a0, a1, a2⟩ := HA1.out.fields hlt
      obtain ⟨gb, ob, u, rfl, htb, b0, b1, b2⟩ := HB1.out.fields hlt
      have hup : u.p = t.p + d := by
        rw [List.getElem?_map, hta] at htb
        have := Option.some.inj htb
        rw [← this]; rfl
      have htp := HP.out t (List.mem_of_getElem? hta)
      rw [hup] at b2
      obtain ⟨pp, hpp⟩ : ∃ pp, t.p = pp := ⟨_, rfl⟩
      rw [hpp] at a2 b2 htp
      have b2' : w1.cell? ⟨gb, ob + k * 3 + 2, none⟩ = some (.int .i64 ((pp : Int) + d)) := by rw [b2]; simp
      have hw : IntKind.i64.wrap ((pp : Int) + d) = (pp : Int) + d := IntWalk.i64_in _ (by omega)
      have g1 : (((pp : Int) + d) != (pp : Int) + d) = false := by simp
      clear hpp hup hta htb a0 a1 b0 b1 b2
      go_wp2
      go_quiet (fail)
      go_wp2
      go_roundw
      case rel => exact ⟨k + 1, _, by omega, by go_num, rfl⟩
      case measure => simp [intOf]; omega
    · go_wp2
      go_ret
      exact ⟨rfl, bel_trans hb1 (below_drewN _ _)⟩
/-- What lex.Tokens leaves, read. -/
theorem TokPost.reads {w w' : World} {o : Lx.Out} {e : Ending} (h : TokPost w o e w') : ∃ a ca, e = .returned (.tuple #[.slice a o.l.length ca, .int .i64 (o.p : Int), .int .i64 o.e]) ∧ ReadsAs w' a o.l.length o.l ∧ o.l.length ≤ ca ∧ ca ≤ maxLen ∧ Below w.heap.size w w' := by
  obtain ⟨v, he, ho, hb⟩ := h
  rcases ho.2 with ⟨rfl, h0⟩ | ⟨g, cap, cur, rfl, _, _, h1, h2, _⟩
  · refine ⟨none, 0, by rw [he, h0], ⟨rfl, fun hn => by omega⟩, by omega, by simp [maxLen], hb⟩
  · refine ⟨_, cap, he, ⟨rfl, fun _ => ⟨g, 0, rfl, fun j u hu => ?_⟩⟩, h1, h2, hb⟩
    have := ho.cells (g := g) rfl j u hu
    rw [Nat.zero_add]
    cases j <;> simpa [Addr.add] using this
end Go.Proofs.YtdcanjfdgfpdfaaGreatDoor.V
