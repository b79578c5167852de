/- What the listed variables hold where a law of this seat begins. -/
import Derived.Test.YtdcanjfdgfpdfaaGreatDoorTo
import Derived.Test.YtdcanjfdgfpdfaaGreatDoorTie
import Derived.Lib.LaidTab
import Derived.Stop.LaidErr
import Derived.Shelf.Vars
import Derived.LaidMore
import Derived.Lay
import Derived.SevenTiedAt
import Derived.Stop.Joined
namespace Go.Proofs.YtdcanjfdgfpdfaaGreatDoor.L
open Go.ChangeShapes Go.WideShapes Go.ChangeAt Go.RowKit Go.Proofs.YtdcanjfdgfpdfaaGreatDoor.V
def laidList : List (String × DataW Unit) := [("math/bits.deBruijn32tab", Rows.laid_math_bits_deBruijn32tab), ("math/bits.deBruijn64tab", Rows.laid_math_bits_deBruijn64tab), ("internal/strconv.uint64pow10", Rows.laid_internal_strconv_uint64pow10), ("unicode/utf8.acceptRanges", Rows.laid_unicode_utf8_acceptRanges), ("strconv.ErrRange", Rows.laid_strconv_ErrRange), ("strconv.ErrSyntax", Rows.laid_strconv_ErrSyntax), ("unicode.White_Space", Rows.laid_unicode_White_Space), ("strings.asciiSpace", Rows.laid_strings_asciiSpace), ("unicode.CaseRanges", Rows.laid_unicode_CaseRanges), ("unicode/utf8.first", Rows.laid_unicode_utf8_first)]
theorem plainList : (laidList.all fun x => x.2.handleName?.isNone) = true := by kernel_rfl
theorem gTab : Tryz.prog.globalNamed "strings.asciiSpace" = some 0 := by kernel_rfl
theorem gTabType : (Tryz.prog.globals[0]?).map (·.type) = some 83 := by kernel_rfl
theorem gSyn : Tryz.prog.globalNamed "strconv.ErrSyntax" = some 7 := by kernel_rfl
theorem gSynType : (Tryz.prog.globals[7]?).map (·.type) = some 47 := by kernel_rfl
theorem gRan : Tryz.prog.globalNamed "strconv.ErrRange" = some 8 := by kernel_rfl
theorem gRanType : (Tryz.prog.globals[8]?).map (·.type) = some 47 := by kernel_rfl
theorem cellsE : Tryz.prog.cellsOf 144 = 1 := by kernel_rfl
theorem cellsS : Tryz.prog.cellsOf 9 = 1 := by kernel_rfl
theorem cellsU : Tryz.prog.cellsOf 5 = 1 := by kernel_rfl
theorem cellsT : Tryz.prog.cellsOf 83 = 256 := by kernel_rfl
theorem star : "*" ++ "errors.errorString" = "*errors.errorString" := by decide
/-- Only one type of the table bears the name. -/
theorem rowE (u : TypeId) (h : Tryz.prog.typeName? 3 u = some "*errors.errorString") : u = 142 :=
  typeName_ptr_named (nm := "errors.errorString") (by rw [star]; kernel_rfl) (by kernel_rfl) (by decide) u (by rw [star]; exact h)
theorem tab_is : Rows.laid_strings_asciiSpace = (Lib.tabData .u8 Lib.asciiSpaceTab : DataW Unit) := by
  unfold Lib.tabData Lib.asciiSpaceTab
  kernel_rfl
theorem env_of {W : World} (h : laidMetH Tryz.prog laidList W) (hs : W.ShapedOpen Tryz.prog) : Env W := by
  rw [MakeChecks.laidMetH_plain _ _ _ plainList] at h
  have h1 := laidMet_tail h
  have h2 := laidMet_tail h1
  have h3 := laidMet_tail h2
  have h4 := laidMet_tail h3
  have h5 := laidMet_tail h4
  have h6 := laidMet_tail h5
  have h7 := laidMet_tail h6
  rw [tab_is] at h7
  obtain ⟨a, _, hr, _⟩ := laid_sentinel h4 gRan gRanType Tryz.underlying47 rowE Tryz.underlying142 Tryz.underlying144 rfl rfl Tryz.underlying9 cellsE cellsS
  obtain ⟨a', _, hy, _⟩ := laid_sentinel h5 gSyn gSynType Tryz.underlying47 rowE Tryz.underlying142 Tryz.underlying144 rfl rfl Tryz.underlying9 cellsE cellsS
  have ht := Lib.tabIs_of_head gTab gTabType Tryz.underlying83 Tryz.underlying5 cellsU cellsT h7
  exact ⟨fun i hi => by rw [ht.cell gTab i (by rw [Lib.asciiSpaceTab_length]; exact hi), Lib.asciiSpaceTab_at i hi],
    cell_of_shapedOpen_int hs (g := 1) (t := 3) (zero := #[.int .i64 0]) (of_decide_eq_true (by kernel_rfl)) (by kernel_rfl) rfl (by kernel_rfl) (by kernel_rfl) Tryz.underlying3,
    ⟨_, _, (World.var?_cell gRan hr 0).trans rfl⟩, ⟨_, _, (World.var?_cell gSyn hy 0).trans rfl⟩⟩
end Go.Proofs.YtdcanjfdgfpdfaaGreatDoor.L
