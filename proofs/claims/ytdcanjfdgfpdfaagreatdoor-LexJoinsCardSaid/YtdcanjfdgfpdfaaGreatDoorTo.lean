/- Contracts of the functions of package lex that read one token. -/
import Derived.Test.YtdcanjfdgfpdfaaGreatDoorSs
import Derived.Test.YtdcanjfdgfpdfaaGreatDoorNu
namespace Go.Proofs.YtdcanjfdgfpdfaaGreatDoor.V
open Go.ChangeShapes Go.WideShapes Go.ChangeAt Go.RowKit Go.Shelf
/-- What the library's variables hold, as far as tokens are concerned. -/
structure Env (w : World) : Prop where
  tab : Tab w
  most : ∃ m, w.cell? ⟨1, 0, none⟩ = some (.int .i64 m)
  range : ∃ te pe, w.cell? ⟨8, 0, none⟩ = some (.iface te pe)
  syn : ∃ te pe, w.cell? ⟨7, 0, none⟩ = some (.iface te pe)
theorem cellb {W W' : World} {a : Addr} {v : Value} (h : Below W.heap.size W W') (hv : W.cell? a = some v) : W'.cell? a = some v := by
  have hlt : a.block < W.heap.size := by
    rcases Nat.lt_or_ge a.block W.heap.size with h' | h'
    · exact h'
    · unfold World.cell? at hv; simp [Array.getElem?_eq_none h'] at hv
  rw [h.cell hlt]
  exact hv
theorem Env.below {w w' : World} (E : Env w) (h : Below w.heap.size w w') : Env w' :=
  ⟨E.tab.below h, let ⟨m, hm⟩ := E.most; ⟨m, cellb h hm⟩, let ⟨t, p, hp⟩ := E.range; ⟨t, p, cellb h hp⟩, let ⟨t, p, hp⟩ := E.syn; ⟨t, p, cellb h hp⟩⟩
theorem Env.alloc {w : World} (E : Env w) (o : Obj) : Env (w.alloc o) := E.below ((Below.refl _ w).alloc (Nat.le_refl _) o)
/-- Whatever strconv.ParseUint says of a text. -/
theorem l_Parse (d : ByteArray) (hd : d.size ≤ 4000) (w : World) (E : Env w) :
    Calls Tryz.prog 62 #[.string d, .int .i64 10, .int .i64 64] w fun e w' => (∃ (u : Nat) (v : Value), e = .returned (.tuple #[.int .u64 u, v]) ∧ ((v = .nilIface ∧ Lib.parseUintB 64 d.data.toList = .ok u) ∨ (Lx.isNum d.data.toList = false ∧ ∃ te pe, v = .iface te pe))) ∧ Below w.heap.size w w' := by
  have ho := Lx.okB d.data.toList
  cases h : Lib.parseUintB 64 d.data.toList with
  | ok u =>
    refine (Tryz.strconv_ParseUint_10_at64_ok d (by omega) u h w).mono ?_
    rintro e w' ⟨rfl, hw⟩
    refine ⟨⟨u, _, rfl, .inl ⟨rfl, rfl⟩⟩, ?_⟩
    rcases hw with rfl | rfl
    · exact Below.refl _ _
    · exact Joins.below_bytesWorld _ _ _ _ (Nat.le_refl _)
  | range =>
    obtain ⟨te, pe, hv⟩ := E.range
    rw [h] at ho
    refine (Tryz.strconv_ParseUint_10_at64_range d (by omega) h _ w hv (.inr ⟨te, pe, rfl⟩)).mono ?_
    rintro e w' ⟨N, rfl, _, _, hb⟩
    exact ⟨⟨_, _, rfl, .inr ⟨ho.symm, _, _, rfl⟩⟩, hb⟩
  | _ =>
    obtain ⟨te, pe, hv⟩ := E.syn
    rw [h] at ho
    refine (Any.strconv_ParseUint_10_at64_syntax Tryz.laysPu14 d (by omega) h _ w hv (.inr ⟨te, pe, rfl⟩)).mono ?_
    rintro e w' ⟨N, rfl, _, _, hb⟩
    exact ⟨⟨_, _, rfl, .inr ⟨ho.symm, _, _, rfl⟩⟩, hb⟩
set_option maxRecDepth 100000 in
theorem c_isNumber (d : ByteArray) (hd : d.size ≤ 4000) (w : World) (E : Env w) : Calls Tryz.prog 47 #[.string d] w fun e w' => e = .returned (.bool (Lx.isNum d.data.toList)) ∧ Below w.heap.size w w' := by
  go_enter Tryz.func47, Tryz.ntmps47
  go_wp2_with fail
  refine (l_Parse d hd _ E).mono ?_
  rintro e w1 ⟨⟨u, v, rfl, h⟩, hb⟩
  rcases h with ⟨rfl, h⟩ | ⟨h, te, pe, rfl⟩
  · have hk : Hid (Lx.isNum d.data.toList = Lx.small63 u) := by
      show _ = _
      rw [← Lx.okB, h]; rfl
    clear h
    go_wp2
    go_ret
    exact ⟨ret_bool (by rw [hk.out]; exact decide_eq_decide.2 (by omega)), hb⟩
  · have hk := Lib.hid h
    clear h
    go_wp2
    go_ret
    exact ⟨ret_bool (by rw [hk.out]), hb⟩
theorem among_word : among [2, 3, 4, 5] = Lx.wordB := by
  funext b
  have h := cls_n b
  have e : ∀ c : UInt8, (b = c) = (b.toNat = c.toNat) := fun c => propext UInt8.toNat_inj.symm
  rw [Bool.eq_iff_iff]
  simp only [among, List.contains_cons, List.contains_nil, Bool.or_false, beq_iff_eq, Lx.wordB, Lx.letter, Lx.small, Lx.cap, Lx.digit, Bool.or_eq_true, Bool.and_eq_true, decide_eq_true_eq, e, h]
  show _ ↔ ((((97 ≤ b.toNat ∧ b.toNat ≤ 122) ∨ (65 ≤ b.toNat ∧ b.toNat ≤ 90)) ∨ b.toNat = 95) ∨ (48 ≤ b.toNat ∧ b.toNat ≤ 57))
  repeat' split
  all_goals omega
theorem among_digit : among [5] = Lx.digit := by
  funext b
  have h := cls_n b
  rw [Bool.eq_iff_iff]
  simp only [among, List.contains_cons, List.contains_nil, Bool.or_false, beq_iff_eq, Lx.digit, Bool.and_eq_true, decide_eq_true_eq, h]
  repeat' split
  all_goals omega
theorem among_letter : among [2, 3, 4] = Lx.letter := by
  funext b
  have h := cls_n b
  have e : ∀ c : UInt8, (b = c) = (b.toNat = c.toNat) := fun c => propext UInt8.toNat_inj.symm
  rw [Bool.eq_iff_iff]
  simp only [among, List.contains_cons, List.contains_nil, Bool.or_false, beq_iff_eq, Lx.letter, Lx.small, Lx.cap, Bool.or_eq_true, Bool.and_eq_true, decide_eq_true_eq, e, h]
  show _ ↔ (((97 ≤ b.toNat ∧ b.toNat ≤ 122) ∨ (65 ≤ b.toNat ∧ b.toNat ≤ 90)) ∨ b.toNat = 95)
  repeat' split
  all_goals omega
theorem four_at {x0 x1 x2 x3 c : Int} {j : Nat} (h : [x0, x1, x2, x3][j]? = some c) : (j = 0 ∧ c = x0) ∨ (j = 1 ∧ c = x1) ∨ (j = 2 ∧ c = x2) ∨ (j = 3 ∧ c = x3) := by
  match j, h with
  | 0, h => exact .inl ⟨rfl, (Option.some.inj h).symm⟩
  | 1, h => exact .inr (.inl ⟨rfl, (Option.some.inj h).symm⟩)
  | 2, h => exact .inr (.inr (.inl ⟨rfl, (Option.some.inj h).symm⟩))
  | 3, h => exact .inr (.inr (.inr ⟨rfl, (Option.some.inj h).symm⟩))
  | j + 4, h => simp at h
theorem three_at {x0 x1 x2 c : Int} {j : Nat} (h : [x0, x1, x2][j]? = some c) : (j = 0 ∧ c = x0) ∨ (j = 1 ∧ c = x1) ∨ (j = 2 ∧ c = x2) := by
  match j, h with
  | 0, h => exact .inl ⟨rfl, (Option.some.inj h).symm⟩
  | 1, h => exact .inr (.inl ⟨rfl, (Option.some.inj h).symm⟩)
  | 2, h => exact .inr (.inr ⟨rfl, (Option.some.inj h).symm⟩)
  | j + 3, h => simp at h
theorem take_tw (p : UInt8 → Bool) : ∀ l : List UInt8, l.take (l.takeWhile p).length = l.takeWhile p
  | [] => rfl
  | b :: t => by
    by_cases hb : p b = true
    · rw [List.takeWhile_cons_of_pos hb, List.length_cons, List.take_succ_cons, take_tw p t]
    · rw [List.takeWhile_cons_of_neg hb]; rfl
/-- A part of a source that is a run. -/
theorem run_part {p : UInt8 → Bool} (s : ByteArray) (a m : Nat) (h : runE p s.data.toList a = m) : (s.extract a m).data.toList = (s.data.toList.drop a).takeWhile p := by
  rw [Lib.extract_data, ← h, runE, Nat.add_sub_cancel_left, take_tw]
theorem part_size {p : UInt8 → Bool} (s x : ByteArray) (a m : Nat) (h : runE p s.data.toList a = m) (hx : x.data.toList = (s.data.toList.drop a).takeWhile p) : a + x.size = m := by
  rw [← h, runE, ← hx]; simp
theorem word_asc {l : List UInt8} (h : ∀ b ∈ l, Lx.wordB b = true) : ∀ (j : Nat) (b : UInt8), l[j]? = some b → b.toNat < 128 := by
  intro j b hj
  have := h b (List.mem_of_getElem? hj)
  simp only [Lx.wordB, Lx.letter, Lx.small, Lx.cap, Lx.digit, Bool.or_eq_true, Bool.and_eq_true, decide_eq_true_eq, beq_iff_eq] at this
  rcases this with ((h | h) | h) | h
  · omega
  · omega
  · subst h; decide
  · omega
theorem l_Upper (x : ByteArray) (hx : x.size ≤ 4000) (h : ∀ b ∈ x.data.toList, Lx.wordB b = true) (w : World) : Calls Tryz.prog 55 #[.string x] w fun e w' => e = .returned (.string ⟨(x.data.toList.map Lx.up).toArray⟩) ∧ Below w.heap.size w w' := by
  have k := Tryz.strings_ToUpper_ascii x w (by omega) (word_asc h)
  rwa [Lib.toUpperA, Lx.upper_is] at k
theorem l_Lower (x : ByteArray) (hx : x.size ≤ 4000) (h : ∀ b ∈ x.data.toList, Lx.wordB b = true) (w : World) : Calls Tryz.prog 56 #[.string x] w fun e w' => e = .returned (.string ⟨(x.data.toList.map Lx.low).toArray⟩) ∧ Below w.heap.size w w' := by
  have k := Tryz.strings_ToLower_ascii x w (by omega) (word_asc h)
  rwa [Lib.toLowerA, Lx.lower_is] at k
/-- The zero token's box, as later worlds hold it. -/
abbrev tok0 : Obj := .cells #[.int .u8 0, .string ⟨#[]⟩, .int .i64 0] 36
theorem box3 {w w2 : World} (hb : Below (w.alloc tok0).heap.size (w.alloc tok0) w2) : Cell w2 w.heap.size 0 (.int .u8 0) ∧ Cell w2 w.heap.size 1 (.string ⟨#[]⟩) ∧ Cell w2 w.heap.size 2 (.int .i64 0) := by
  refine ⟨⟨?_, ?_⟩, ⟨?_, ?_⟩, ⟨?_, ?_⟩⟩
  · rw [hb.cell (p := ⟨w.heap.size, 0, none⟩) (by simp)]; simp [go_sem]
  · rw [hb.frozen (p := ⟨w.heap.size, 0, none⟩) (by simp)]; simp [go_sem]
  · rw [hb.cell (p := ⟨w.heap.size, 1, none⟩) (by simp)]; simp [go_sem]
  · rw [hb.frozen (p := ⟨w.heap.size, 1, none⟩) (by simp)]; simp [go_sem]
  · rw [hb.cell (p := ⟨w.heap.size, 2, none⟩) (by simp)]; simp [go_sem]
  · rw [hb.frozen (p := ⟨w.heap.size, 2, none⟩) (by simp)]; simp [go_sem]
theorem box_below {w w2 : World} {o : Obj} (hb : Below (w.alloc o).heap.size (w.alloc o) w2) : Below w.heap.size w w2 := bel_trans (bel_alloc (Below.refl _ w) o) hb
theorem bel3 {w W : World} (h : Below w.heap.size w W) (a b c : Value) : Below w.heap.size w (((W.setCell ⟨w.heap.size, 0, none⟩ a).setCell ⟨w.heap.size, 1, none⟩ b).setCell ⟨w.heap.size, 2, none⟩ c) :=
  bel_set (bel_set (bel_set h (Nat.le_refl _) _) (Nat.le_refl _) _) (Nat.le_refl _) _
set_option maxHeartbeats 1000000 in
theorem c_wordAt (s : ByteArray) (a : Nat) (hs : s.size ≤ 4000) (ha : a < s.size) (w : World) (E : Env w) :
    Calls Tryz.prog 37 #[.string s, .int .i64 a] w fun e w' => e = .returned (tv (Lx.word (s.data.toList.drop a)) a) ∧ Below w.heap.size w w' := by
  obtain ⟨m, hm⟩ : ∃ m, runE (among [2, 3, 4, 5]) s.data.toList a = m := ⟨_, rfl⟩
  have hm2 := runE_le (p := among [2, 3, 4, 5]) (l := s.data.toList) (k := a) (by simp; omega)
  rw [hm] at hm2
  have hml : m ≤ s.size := by simpa using hm2.2
  have ham : a ≤ m := hm2.1
  have cR := fun g cap w hc => c_runEnd s a g cap [2, 3, 4, 5] w hs (by omega) (by decide) hc
  rw [hm] at cR
  have CR := Lib.hid cR
  obtain ⟨x, hx⟩ : ∃ x, s.extract a m = x := ⟨_, rfl⟩
  have hxl : x.data.toList = (s.data.toList.drop a).takeWhile Lx.wordB := by rw [← hx]; exact run_part s a m (among_word ▸ hm)
  have hxm : a + x.size = m := part_size s x a m (among_word ▸ hm) hxl
  have hxs : x.size ≤ 4000 := by omega
  have hxw : ∀ b ∈ x.data.toList, Lx.wordB b = true := fun b hb => Lx.tw_mem (hxl ▸ hb)
  have hword : Lx.word (s.data.toList.drop a) = if Lx.isKw (x.data.toList.map Lx.up) then .ok 1 (x.data.toList.map Lx.up) x.size else if 20 < x.size then .err 22 else .ok 2 (x.data.toList.map Lx.low) x.size := by
    rw [Lx.word, ← hxl]; simp
  have HW := Lib.hid hword
  have CU := Lib.hid (fun w => l_Upper x hxs hxw w)
  have CL := Lib.hid (fun w => l_Lower x hxs hxw w)
  have HX := Lib.hid hx
  clear cR hm hm2 hx hxl hxw hword
  go_enter Tryz.func37, Tryz.ntmps37
  go_wp2_with fail
  refine (CR.out _ _ _ ?_).mono ?_
  · intro j c hc
    rcases four_at hc with ⟨rfl, rfl⟩ | ⟨rfl, rfl⟩ | ⟨rfl, rfl⟩ | ⟨rfl, rfl⟩ <;> simp [go_sem]
  rintro e w1 ⟨rfl, rfl⟩
  go_wp2_with fail
  rw [HX.out]
  refine (CU.out _).mono ?_
  rintro e w1 ⟨rfl, hb1⟩
  have E1 := ((E.alloc _).alloc _).below hb1
  have B1 : Below (w.alloc tok0).heap.size (w.alloc tok0) w1 := bel_trans (bel_alloc (Below.refl _ _) _) hb1
  go_wp2_with fail
  refine (c_IsKeyword _ _ E1.tab).mono ?_
  rintro e w2 ⟨rfl, hb2⟩
  have E2 := E1.below hb2
  have B2 := bel_trans B1 hb2
  clear hb1 hb2 B1 E1
  have hd : ∀ l : List UInt8, (⟨l.toArray⟩ : ByteArray).data.toList = l := fun l => by simp
  rw [hd]
  cases hk : Lx.isKw (x.data.toList.map Lx.up) with
  | true =>
    have HR : Hid (Lx.word (s.data.toList.drop a) = .ok 1 (x.data.toList.map Lx.up) x.size) := by show _ = _; rw [HW.out, hk]; rfl
    have HM := Lib.hid hxm
    have HB := Lib.hid (box_below B2)
    obtain ⟨⟨c0, f0⟩, ⟨c1, f1⟩, ⟨c2, f2⟩⟩ := box3 B2
    clear hk hd hxm B2 E2
    go_wp2
    refine bodyPost_ret (v := tv (.ok 1 (x.data.toList.map Lx.up) x.size) a) ?_ rfl ⟨by rw [HR.out], bel3 HB.out _ _ _⟩
    simp [results, Tryz.results37, go_sem, tv, HM.out, c0, c1, c2]
  | false =>
    by_cases h20 : 20 < x.size
    · have HR : Hid (Lx.word (s.data.toList.drop a) = .err 22) := by show _ = _; rw [HW.out, hk, if_pos h20]; rfl
      have HB := Lib.hid (box_below B2)
      obtain ⟨⟨c0, f0⟩, ⟨c1, f1⟩, ⟨c2, f2⟩⟩ := box3 B2
      clear hk hd hxm B2 E2
      go_wp2
      refine bodyPost_ret (v := tv (.err 22) a) ?_ rfl ⟨by rw [HR.out], bel3 HB.out _ _ _⟩
      simp [results, Tryz.results37, go_sem, tv, c0, c1, c2]
    · have HR : Hid (Lx.word (s.data.toList.drop a) = .ok 2 (x.data.toList.map Lx.low) x.size) := by show _ = _; rw [HW.out, hk, if_neg h20]; rfl
      have HM := Lib.hid hxm
      clear hk hd hxm
      go_wp2_with fail
      refine (CL.out _).mono ?_
      rintro e w3 ⟨rfl, hb3⟩
      have B3 := bel_trans B2 hb3
      have HB := Lib.hid (box_below B3)
      obtain ⟨⟨c0, f0⟩, ⟨c1, f1⟩, ⟨c2, f2⟩⟩ := box3 B3
      clear B2 B3 E2 hb3
      go_wp2
      refine bodyPost_ret (v := tv (.ok 2 (x.data.toList.map Lx.low) x.size) a) ?_ rfl ⟨by rw [HR.out], bel3 HB.out _ _ _⟩
      simp [results, Tryz.results37, go_sem, tv, HM.out, c0, c1, c2]
theorem one_letter {l : List UInt8} {m : Nat} : (m < runE Lx.letter l m) ↔ (l.drop m).head?.any Lx.letter = true := by
  unfold runE
  cases h : l.drop m with
  | nil => simp
  | cons b t =>
    by_cases hb : Lx.letter b = true
    · rw [List.takeWhile_cons_of_pos hb]; simp [hb]
    · rw [List.takeWhile_cons_of_neg hb]; simp [hb]
set_option maxHeartbeats 1000000 in
theorem c_numberAt (s : ByteArray) (a : Nat) (hs : s.size ≤ 4000) (ha : a < s.size) (hd : Lx.digit s[a] = true) (w : World) (E : Env w) :
    Calls Tryz.prog 38 #[.string s, .int .i64 a] w fun e w' => e = .returned (tv (Lx.number (s.data.toList.drop a)) a) ∧ Below w.heap.size w w' := by
  obtain ⟨m, hm⟩ : ∃ m, runE (among [5]) s.data.toList a = m := ⟨_, rfl⟩
  have hm2 := runE_le (p := among [5]) (l := s.data.toList) (k := a) (by simp; omega)
  rw [hm] at hm2
  have hml : m ≤ s.size := by simpa using hm2.2
  have ham : a ≤ m := hm2.1
  have cR := fun g cap w hc => c_runEnd s a g cap [5] w hs (by omega) (by decide) hc
  rw [hm] at cR
  obtain ⟨n, hn⟩ : ∃ n, runE (among [2, 3, 4]) s.data.toList m = n := ⟨_, rfl⟩
  have hn2 := runE_le (p := among [2, 3, 4]) (l := s.data.toList) (k := m) (by simpa using hml)
  rw [hn] at hn2
  have hnl : n ≤ s.size := by simpa using hn2.2
  have cN := fun g cap w hc => c_runEnd s m g cap [2, 3, 4] w hs hml (by decide) hc
  rw [hn] at cN
  have CR := Lib.hid cR
  have CN := Lib.hid cN
  obtain ⟨x, hx⟩ : ∃ x, s.extract a m = x := ⟨_, rfl⟩
  have hxl : x.data.toList = (s.data.toList.drop a).takeWhile Lx.digit := by rw [← hx]; exact run_part s a m (among_digit ▸ hm)
  have hxm : a + x.size = m := part_size s x a m (among_digit ▸ hm) hxl
  have hxs : x.size ≤ 4000 := by omega
  have hlet : (m < n) ↔ ((s.data.toList.drop a).dropWhile Lx.digit).head?.any Lx.letter = true := by
    rw [← hn, among_letter, one_letter, Lx.dw_eq, List.drop_drop, ← hxl]
    have : a + x.data.toList.length = m := by simpa using hxm
    rw [this]
  have hnum : Lx.number (s.data.toList.drop a) = if Lx.isNum x.data.toList = false then .err 23 else if m < n then .err 24 else .ok 3 x.data.toList x.size := by
    rw [Lx.number_is (by rw [drop_at s a ha]; simpa using hd), ← hxl]
    simp [hlet]
  have HW := Lib.hid hnum
  have CI := Lib.hid (fun w E => c_isNumber x hxs w E)
  have HX := Lib.hid hx
  have hmn : m ≤ n := hn2.1
  clear cR cN hm hm2 hx hxl hnum hlet hn hn2 hd
  go_enter Tryz.func38, Tryz.ntmps38
  go_wp2_with fail
  refine (CR.out _ _ _ ?_).mono ?_
  · intro j c hc
    obtain ⟨rfl, rfl⟩ := one_at hc
    simp [go_sem]
  rintro e w1 ⟨rfl, rfl⟩
  go_wp2_with fail
  rw [HX.out]
  have E0 := (E.alloc tok0).alloc (.cells #[.int .u8 5] 55)
  refine (CI.out _ E0).mono ?_
  rintro e w1 ⟨rfl, hb1⟩
  have B1 : Below (w.alloc tok0).heap.size (w.alloc tok0) w1 := bel_trans (bel_alloc (Below.refl _ _) _) hb1
  clear hb1 E0
  cases hk : Lx.isNum x.data.toList with
  | false =>
    have HR : Hid (Lx.number (s.data.toList.drop a) = .err 23) := by show _ = _; rw [HW.out, if_pos hk]
    have HB := Lib.hid (box_below B1)
    obtain ⟨⟨c0, f0⟩, ⟨c1, f1⟩, ⟨c2, f2⟩⟩ := box3 B1
    clear hk B1
    go_wp2
    refine bodyPost_ret (v := tv (.err 23) a) ?_ rfl ⟨by rw [HR.out], bel3 HB.out _ _ _⟩
    simp [results, Tryz.results38, go_sem, tv, c0, c1, c2]
  | true =>
    have B2 : Below (w.alloc tok0).heap.size (w.alloc tok0) (w1.alloc (.cells #[.int .u8 2, .int .u8 3, .int .u8 4] 55)) := bel_alloc B1 _
    have HB := Lib.hid (box_below B2)
    obtain ⟨⟨c0, f0⟩, ⟨c1, f1⟩, ⟨c2, f2⟩⟩ := box3 B2
    have C0 := Lib.hid c0
    have C1 := Lib.hid c1
    have C2 := Lib.hid c2
    have F0 := Lib.hid f0
    have F1 := Lib.hid f1
    have F2 := Lib.hid f2
    have h23 : ¬ Lx.isNum x.data.toList = false := by rw [hk]; decide
    have hw := HW.out
    rw [if_neg h23] at hw
    have HW2 := Lib.hid hw
    clear hk B1 B2 c0 c1 c2 f0 f1 f2 h23 hw
    go_wp2_with fail
    refine (CN.out _ _ _ ?_).mono ?_
    · intro j c hc
      rcases three_at hc with ⟨rfl, rfl⟩ | ⟨rfl, rfl⟩ | ⟨rfl, rfl⟩ <;> simp [go_sem]
    rintro e w2 ⟨rfl, rfl⟩
    have c0 := C0.out
    have c1 := C1.out
    have c2 := C2.out
    have f0 := F0.out
    have f1 := F1.out
    have f2 := F2.out
    by_cases hlt : m < n
    · have HR : Hid (Lx.number (s.data.toList.drop a) = .err 24) := by show _ = _; rw [HW2.out, if_pos hlt]
      go_wp2
      refine bodyPost_ret (v := tv (.err 24) a) ?_ rfl ⟨by rw [HR.out], bel3 HB.out _ _ _⟩
      simp [results, Tryz.results38, go_sem, tv, c0, c1, c2]
    · have HR : Hid (Lx.number (s.data.toList.drop a) = .ok 3 x.data.toList x.size) := by show _ = _; rw [HW2.out, if_neg hlt]
      have HM := Lib.hid hxm
      clear hxm
      go_wp2
      refine bodyPost_ret (v := tv (.ok 3 x.data.toList x.size) a) ?_ rfl ⟨by rw [HR.out], bel3 HB.out _ _ _⟩
      simp [results, Tryz.results38, go_sem, tv, HM.out, c0, c1, c2]
end Go.Proofs.YtdcanjfdgfpdfaaGreatDoor.V
