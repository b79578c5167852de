/- An append to a row of one's own, beside another row of one's own. -/
import Derived.Test.YtefelelhgepkeaaGreatDoorTh
import Derived.Test.YtefelelhgepkeaaGreatDoorDa
import Derived.Test.YtefelelhgepkeaaGreatDoorKw
namespace Go.Proofs.YtefelelhgepkeaaGreatDoor.T
open Go.ChangeShapes Go.WideShapes Go.ChangeAt Go.RowKit Go.Proofs.YtefelelhgepkeaaGreatDoor.V Go.Proofs.YtefelelhgepkeaaGreatDoor.K Go.Proofs.YtefelelhgepkeaaGreatDoor.KD
theorem app_gen {w W : World} {t e : TypeId} {z : Value} {size bytes : Nat} (ht : Tryz.prog.underlying t = some (.slice e)) (hinfo : (Tryz.prog.info? e).map (fun i => (i.zero, i.size, i.bytes)) = some (some z, size, bytes)) (hzs : z.cells.size = size) (hsz : 0 < size)
    {v : Value} {k : Nat} {xs news : List Value} {ad : Addr} {m c : Nat} (O : W.ownsRow w.heap.size e size v k xs) (hB : Below w.heap.size w W) (hl : news.length = m * size) (hnews : ∀ j u, news[j]? = some u → W.cell? (ad.add j) = some u) (h1 : ∀ u ∈ news, u.oneCell' = true)
    (h63 : k + m ≤ 9223372036854775807) (hlen : (k + m) * bytes ≤ 140737488355328) :
    ∃ a2 cp w2, (Builtin.append_ #[t, t] t #[v, .slice (some ad) m c]).run Tryz.prog W = .ok (.slice a2 (k + m) cp) w2 ∧
      Hid (w2.ownsRow w.heap.size e size (.slice a2 (k + m) cp) (k + m) (xs ++ news)) ∧ Hid (Below w.heap.size w w2) ∧
      Hid (∀ v' e' size' (n : Nat) zs, ApartV v v' → W.ownsRow w.heap.size e' size' v' n zs → w2.ownsRow w.heap.size e' size' v' n zs ∧ ApartV (.slice a2 (k + m) cp) v') := by
  obtain ⟨i, hi, hz, hs, hby⟩ := info_parts hinfo
  obtain ⟨v2, w2, hr, O2, hg, -, hnb⟩ := run_append_own_at (P := Tryz.prog) (w := W) w.heap.size t t e i z size bytes ht hi hz hs hby hzs hsz v _ _ O ad m c news hl hnews h1 (by unfold maxLen; omega) hlen hB.size
  obtain ⟨a2, cp, rfl⟩ := own_slice O2
  have hrow : ∀ k, v.ownBlock = some k → w.heap.size ≤ k := fun k hk => (O.lt k hk).1
  refine ⟨a2, cp, w2, hr, O2, ?_, fun v' e' size' n zs hA O' => ⟨O'.kept hg ?_, ?_⟩⟩
  · exact ⟨hg.os.trans hB.os, hg.tape.trans hB.tape, hg.output.trans hB.output, Nat.le_trans hB.size hg.size, fun k hk => (hg.block k (Nat.lt_of_lt_of_le hk hB.size) (fun e => by have := hrow k e.symm; omega)).trans (hB.block k hk)⟩
  · cases hv : v'.ownBlock with
    | none => exact .inl rfl
    | some k => exact .inr fun e => hA k e.symm hv
  · intro k hk e
    rcases hnb with h | h
    · exact hA k (h ▸ hk) e
    · rw [h] at hk
      have h1 := (O'.lt k e).2
      have h2 : W.heap.size = k := Option.some.inj hk
      omega
theorem infoRow : (Tryz.prog.info? 54).map (fun i => (i.zero, i.size, i.bytes)) = some (some (.slice none 0 0), 1, 24) := by kernel_rfl
/-- A new row of values appended to a list of rows of one's own. -/
theorem app_rows {w W : World} {v : Value} {xs : List Rw} {x : Rw} (O : W.ownsRow w.heap.size 54 1 v xs.length (xs.map rI)) (hB : Below w.heap.size w W) (hlen : xs.length + 1 ≤ 3000000) :
    ∃ a2 m cp w2, (Builtin.append_ #[39, 39] 39 #[v, .slice (some ⟨W.heap.size, 0, none⟩) 1 1]).run Tryz.prog (W.alloc (.cells #[rI x] 54)) = .ok (.slice a2 m cp) w2 ∧ Hid (m = (xs ++ [x]).length) ∧
      Hid (w2.ownsRow w.heap.size 54 1 (.slice a2 m cp) m ((xs ++ [x]).map rI)) ∧ Hid (Below w.heap.size w w2) ∧
      Hid (∀ v' e' size' (n : Nat) zs, ApartV v v' → W.ownsRow w.heap.size e' size' v' n zs → w2.ownsRow w.heap.size e' size' v' n zs ∧ ApartV (.slice a2 m cp) v') := by
  obtain ⟨a2, cp, w2, hr, O2, B2, A2⟩ := app_gen (W := W.alloc (.cells #[rI x] 54)) (t := 39) (ad := ⟨W.heap.size, 0, none⟩) (m := 1) (c := 1) (news := [rI x]) Tryz.underlying39 infoRow (by rfl) (by omega) (O.alloc _) (bel_alloc hB _) rfl (cell_one_new W (rI x) 54)
    (by intro u hu; rw [List.mem_singleton.1 hu]; rfl) (by omega) (by omega)
  have e : xs.map rI ++ [rI x] = (xs ++ [x]).map rI := by simp
  have O3 := O2.out
  rw [e] at O3
  exact ⟨a2, _, cp, w2, hr, (by show _ = _; simp), O3, B2.out, fun v' e' size' n zs hA O' => A2.out v' e' size' n zs hA (O'.alloc _)⟩
end Go.Proofs.YtefelelhgepkeaaGreatDoor.T
