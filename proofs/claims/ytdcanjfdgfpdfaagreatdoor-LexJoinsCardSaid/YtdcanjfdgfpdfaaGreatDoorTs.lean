/- The contract of lex.Tokens: the tokens of any source. -/
import Derived.Test.YtdcanjfdgfpdfaaGreatDoorTq
namespace Go.Proofs.YtdcanjfdgfpdfaaGreatDoor.V
open Go.ChangeShapes Go.WideShapes Go.ChangeAt Go.RowKit Go.Shelf
def tokCells (t : Lx.Tok) : List Value := [.int .u8 t.k, .string ⟨t.s.toArray⟩, .int .i64 t.p]
def cellsOf (l : List Lx.Tok) : List Value := l.flatMap tokCells
theorem cellsOf_len (l : List Lx.Tok) : (cellsOf l).length = l.length * 3 := by
  induction l with
  | nil => rfl
  | cons t l ih => rw [cellsOf, List.flatMap_cons, List.length_append, ← cellsOf, ih, List.length_cons]; simp [tokCells]; omega
theorem cellsOf_snoc (l : List Lx.Tok) (t : Lx.Tok) : cellsOf (l ++ [t]) = cellsOf l ++ tokCells t := by simp [cellsOf]
/-- What lex.Tokens leaves: a slice that reads as the tokens, the number and the code. -/
def TokPost (w : World) (o : Lx.Out) (e : Ending) (w' : World) : Prop :=
  ∃ v, e = .returned (.tuple #[v, .int .i64 (o.p : Int), .int .i64 o.e]) ∧ w'.ownsRow w.heap.size 36 3 v o.l.length (cellsOf o.l) ∧ Below w.heap.size w w'
/-- What has come, in front of what comes. -/
def pre (acc : List Lx.Tok) (o : Lx.Out) : Lx.Out := if o.e = 0 then ⟨acc ++ o.l, 0, 0⟩ else o
theorem pre_nil (f p : Nat) (l : Lx.Bs) : pre [] (Lx.run f p l) = Lx.run f p l := by
  have e : ∀ o : Lx.Out, o.e = 0 → o.p = 0 → (⟨[] ++ o.l, 0, 0⟩ : Lx.Out) = o := fun o h1 h2 => by
    cases o
    dsimp only at h1 h2
    rw [h1, h2]; rfl
  unfold pre
  split
  · rename_i h
    exact e _ h (Lx.run_ok f p l h)
  · rfl
theorem pre_err {l : Lx.Bs} {e : Int} (acc : List Lx.Tok) (f p : Nat) (h : Lx.tok l = .err e) (hl : l ≠ []) : pre acc (Lx.run (f + 1) p l) = ⟨[], p, e⟩ := by
  rw [Lx.run, if_neg hl, h]
  exact if_neg (Lx.tok_err h)
theorem pre_ok {l : Lx.Bs} {k : Int} {s : Lx.Bs} {n : Nat} (acc : List Lx.Tok) (f p : Nat) (h : Lx.tok l = .ok k s n) (hl : l ≠ []) :
    pre acc (Lx.run (f + 1) p l) = pre (acc ++ [⟨k, s, p⟩]) (Lx.run f (p + n + Lx.skip false (l.drop n)) (l.drop (n + Lx.skip false (l.drop n)))) := by
  rw [Lx.run, if_neg hl, h]
  dsimp only
  unfold pre
  split
  · rename_i h1
    rw [if_pos rfl]; simp
  · rfl
theorem pre_end (acc : List Lx.Tok) (f p : Nat) : pre acc (Lx.run f p []) = ⟨acc, 0, 0⟩ := by
  rw [Lx.run_nil]; simp [pre]
theorem own_below {w w' : World} {base : Nat} {e : TypeId} {size n : Nat} {v : Value} {xs : List Value} (h : w.ownsRow base e size v n xs) (hb : Below w.heap.size w w') : w'.ownsRow base e size v n xs :=
  h.kept (row := none) ⟨hb.os, hb.tape, hb.output, hb.size, fun i hi _ => hb.block i hi⟩ (by cases v.ownBlock <;> simp)
theorem infoTok : (Tryz.prog.info? 36).map (fun i => (i.zero, i.size, i.bytes)) = some (some (.agg #[.int .u8 0, .string ⟨#[]⟩, .int .i64 0]), 3, 32) := by kernel_rfl
theorem news3 (W : World) (H : Nat) (hH : W.heap.size = H) (c0 c1 c2 : Value) (t : TypeId) : ∀ (j : Nat) (u : Value), [c0, c1, c2][j]? = some u → (W.alloc (.cells #[c0, c1, c2] t)).cell? ((⟨H, 0, none⟩ : Addr).add j) = some u := by
  subst hH
  intro j u h
  match j, h with
  | 0, h => obtain rfl := Option.some.inj h; simp [go_sem, Addr.add]
  | 1, h => obtain rfl := Option.some.inj h; simp [go_sem, Addr.add]
  | 2, h => obtain rfl := Option.some.inj h; simp [go_sem, Addr.add]
  | j + 3, h => simp at h
theorem own_base {w : World} {base : Nat} {e : TypeId} {size n : Nat} {v : Value} {xs : List Value} (h : w.ownsRow base e size v n xs) : ∀ k, v.ownBlock = some k → base ≤ k := by
  intro k hk
  rcases h.2 with ⟨rfl, _⟩ | ⟨g, cap, cur, rfl, hb, _⟩
  · simp [Value.ownBlock] at hk
  · simp [Value.ownBlock] at hk; omega
set_option maxRecDepth 20000 in
set_option maxHeartbeats 2000000 in
theorem c_Tokens (s : ByteArray) (w : World) (E : Env w) : Calls Tryz.prog 6 #[.string s] w (TokPost w (Lx.toks s.data.toList)) := by
  have hlen : s.data.toList.length = s.size := by simp
  by_cases h4 : 4000 < s.size
  · have HT : Hid (Lx.toks s.data.toList = ⟨[], 0, 2⟩) := by show _ = _; rw [Lx.toks, if_pos (by omega)]
    clear hlen
    go_enter Tryz.func6, Tryz.ntmps6
    go_wp2
    go_ret3
    exact ⟨.slice none 0 0, by rw [HT.out]; rfl, by rw [HT.out]; exact World.ownsRow_nil _ _ _ _, Below.refl _ _⟩
  · have hs : s.size ≤ 4000 := by omega
    have CB := Lib.hid (fun w => c_begin s 0 w hs (Nat.zero_le _))
    have HT : Hid (Lx.toks s.data.toList = pre [] (Lx.run (s.size + 1) (beg s.data.toList 0) (s.data.toList.drop (beg s.data.toList 0)))) := by
      show _ = _
      rw [Lx.toks, if_neg (by omega), pre_nil, hlen, beg]; simp
    have hk0 : beg s.data.toList 0 ≤ s.size := by
      have := Lx.skip_le false (s.data.toList.drop 0)
      rw [beg]; simp at this ⊢; omega
    clear hlen
    go_enter Tryz.func6, Tryz.ntmps6
    go_wp2_with fail
    refine (CB.out _).mono ?_
    rintro e w1 ⟨rfl, hb1⟩
    obtain ⟨k0, hk⟩ : ∃ k0, beg s.data.toList 0 = k0 := ⟨_, rfl⟩
    rw [hk] at HT hk0 ⊢
    have HE := Lib.hid E
    clear hk E
    go_wp2
    go_loopw [5, 6] (fun s5 s6 wr => ∃ (k f : Nat) (acc : List Lx.Tok), s6 = .int .i64 k ∧ k ≤ s.size ∧ s.size - k < f ∧ acc.length ≤ k ∧ Hid (Lx.toks s.data.toList = pre acc (Lx.run f k (s.data.toList.drop k))) ∧
        Hid (wr.ownsRow w.heap.size 36 3 s5 acc.length (cellsOf acc)) ∧ Below w.heap.size w wr)
      (fun _ s6 _ => s.size - (intOf s6).toNat)
    case atStart => exact ⟨k0, s.size + 1, [], rfl, hk0, by omega, by simp, HT, World.ownsRow_nil _ _ _ _, hb1⟩
    case round =>
      obtain ⟨k, f, acc, rfl, hk, hf, hacc, HR, HO, hb⟩ := hrel
      by_cases hlt : k < s.size
      · have hne : s.data.toList.drop k ≠ [] := by rw [drop_at s k hlt]; simp
        obtain ⟨f, rfl⟩ : ∃ g, f = g + 1 := ⟨f - 1, by omega⟩
        have ct := fun w E => c_tokenAt s k hs hlt w E
        cases htok : Lx.tok (s.data.toList.drop k) with
        | err e =>
          have h0 : (e != 0) = true := by simpa using Lx.tok_err htok
          have HT2 : Hid (Lx.toks s.data.toList = ⟨[], k, e⟩) := HR.out.trans (pre_err acc f k htok hne)
          rw [htok] at ct
          have CT := Lib.hid ct
          clear ct htok hne HR
          go_wp2_with fail
          refine (CT.out _ (HE.out.below hb)).mono ?_
          rintro e' w2 ⟨rfl, hb2⟩
          have HB := Lib.hid (bel_trans hb hb2)
          clear hb2 hb
          unfold tv
          go_wp2
          go_ret3
          exact ⟨.slice none 0 0, by rw [HT2.out]; rfl, by rw [HT2.out]; exact World.ownsRow_nil _ _ _ _, by repeat (first | exact HB.out | apply bel_alloc | refine bel_set ?_ (by simp; omega) _)⟩
        | ok kk t n =>
          have hn := Lx.tok_ok htok
          rw [List.length_drop] at hn
          have hn1 : 1 ≤ n := hn.1
          have hn2 : k + n ≤ s.size := by
            have h1 := hn.2
            have h2 : s.data.toList.length = s.size := by simp
            omega
          have HT2 : Hid (Lx.toks s.data.toList = pre (acc ++ [⟨kk, t, k⟩]) (Lx.run f (beg s.data.toList (k + n)) (s.data.toList.drop (beg s.data.toList (k + n))))) := by
            have := HR.out.trans (pre_ok acc f k htok hne)
            rw [List.drop_drop, List.drop_drop] at this
            show _ = _
            rw [this, beg, Nat.add_assoc k n]
          rw [htok] at ct
          have CT := Lib.hid ct
          have cb2 := fun w => c_begin s (k + n) w hs hn2
          rw [show ((k + n : Nat) : Int) = (k : Int) + n by omega] at cb2
          have CB2 := Lib.hid cb2
          clear cb2
          obtain ⟨k2, hk2⟩ : ∃ k2, beg s.data.toList (k + n) = k2 := ⟨_, rfl⟩
          have hk2l : k + n ≤ k2 ∧ k2 ≤ s.size := by
            have h1 := Lx.skip_le false (s.data.toList.drop (k + n))
            have h2 : s.data.toList.length = s.size := by simp
            rw [List.length_drop] at h1
            rw [← hk2, beg]; omega
          rw [hk2] at HT2 CB2
          have hb1 : k + n ≤ k2 := hk2l.1
          have hb2 : k2 ≤ s.size := hk2l.2
          clear ct htok hne HR hn hk2 hk2l
          go_wp2_with fail
          refine (CT.out _ (HE.out.below hb)).mono ?_
          rintro e' w2 ⟨rfl, hw2⟩
          have hO2 := own_below HO.out hw2
          have hOb := own_base hO2
          have HOB := Lib.hid hOb
          have HB := Lib.hid (bel_trans hb hw2)
          have hsz := HB.out.size
          clear hw2 hb HO hOb
          obtain ⟨i0, hi, hz0, hz1, hz2⟩ := info_parts infoTok
          unfold tv
          go_wp2_with (at_builtin; refine wpList_append_own _ rfl _ _ 22 rfl w.heap.size 36 i0 (.agg #[.int .u8 0, .string ⟨#[]⟩, .int .i64 0]) 3 32 Tryz.underlying22 hi hz0 hz1 hz2 rfl (by decide) _ _ _ rfl ((hO2.alloc _).alloc _) ⟨w2.heap.size + 1, 0, none⟩ 1 1 [.int .u8 kk, .string ⟨t.toArray⟩, .int .i64 k] rfl rfl (news3 _ _ (by simp) _ _ _ _) (by simp [Value.oneCell']) (by simp only [maxLen]; omega) (by omega) (by simp; omega) ?_; intro v' w3 hown hgrow hnil)
          have hB3 : Below w.heap.size w w3 := (bel_alloc (bel_alloc HB.out _) _).grown hgrow (by simp; omega) HOB.out
          have hO3 : w3.ownsRow w.heap.size 36 3 v' (acc ++ [(⟨kk, t, k⟩ : Lx.Tok)]).length (cellsOf (acc ++ [⟨kk, t, k⟩])) := by
            rw [cellsOf_snoc, List.length_append]; exact hown
          clear hown hgrow hnil hO2 hi hz0 hz1 hz2
          refine (CB2.out _).mono ?_
          rintro e' w4 ⟨rfl, hb4⟩
          have hO4 := own_below hO3 hb4
          have HO4 := Lib.hid hO4
          have hB4 := bel_trans hB3 hb4
          clear hO3 hb4 hO4 hB3
          go_wp2
          go_roundw
          case rel => exact ⟨k2, f, _, rfl, hb2, by omega, by simp; omega, HT2, HO4, hB4⟩
          case measure => simp [intOf]; omega
      · obtain rfl : k = s.size := by omega
        have HT2 : Hid (Lx.toks s.data.toList = ⟨acc, 0, 0⟩) := by
          show _ = _
          rw [HR.out, List.drop_of_length_le (by simp), pre_end]
        clear HR
        go_wp2
        go_ret3
        exact ⟨_, by rw [HT2.out]; rfl, by rw [HT2.out]; exact HO.out, hb⟩
end Go.Proofs.YtdcanjfdgfpdfaaGreatDoor.V
