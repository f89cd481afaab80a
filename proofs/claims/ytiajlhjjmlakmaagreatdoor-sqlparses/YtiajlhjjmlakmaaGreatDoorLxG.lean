import Derived.Test.YtiajlhjjmlakmaaGreatDoorLxIt
import Derived.ProofKit
import Derived.LaidMore
import Derived.OpenShut
import Derived.Stop.Joined
import Derived.Stop.LaidErr
import Derived.Lay
namespace Go.Proofs.YtiajlhjjmlakmaaGreatDoor
open Go.RowKit Num

def laidL : List (String × DataW Unit) := [("math/bits.deBruijn32tab", Rows.laid_math_bits_deBruijn32tab), ("math/bits.deBruijn64tab", Rows.laid_math_bits_deBruijn64tab), ("internal/strconv.uint64pow10", Rows.laid_internal_strconv_uint64pow10), ("unicode/utf8.acceptRanges", Rows.laid_unicode_utf8_acceptRanges), ("strconv.ErrRange", Rows.laid_strconv_ErrRange), ("strconv.ErrSyntax", Rows.laid_strconv_ErrSyntax), ("unicode/utf8.first", Rows.laid_unicode_utf8_first)]
theorem starE : "*" ++ "errors.errorString" = "*errors.errorString" := by decide
theorem rowE (u : TypeId) (h : Tryz.prog.typeName? 3 u = some "*errors.errorString") : u = 189 :=
 typeName_ptr_named (nm := "errors.errorString") (by rw [starE]; kernel_rfl) (by kernel_rfl) (by decide) u (by rw [starE]; exact h)
theorem cellsE : Tryz.prog.cellsOf 191 = 1 := by kernel_rfl
theorem cellsS : Tryz.prog.cellsOf 9 = 1 := by kernel_rfl
theorem tySyn : (Tryz.prog.globals[1]?).map (·.type) = some 116 := by kernel_rfl
theorem tyRng : (Tryz.prog.globals[2]?).map (·.type) = some 116 := by kernel_rfl
theorem tyTab : (Tryz.prog.globals[3]?).map (·.type) = some 181 := by kernel_rfl
theorem plainL : (laidL.all fun x => x.2.handleName?.isNone) = true := by kernel_rfl
theorem glob_of {W : World} (h0 : laidMetH Tryz.prog laidL W) : Glob W := by
 rw [MakeChecks.laidMetH_plain _ _ _ plainL] at h0
 have h : laidMet Tryz.prog [("math/bits.deBruijn32tab", Rows.laid_math_bits_deBruijn32tab), ("math/bits.deBruijn64tab", Rows.laid_math_bits_deBruijn64tab), ("internal/strconv.uint64pow10", Rows.laid_internal_strconv_uint64pow10), ("unicode/utf8.acceptRanges", Rows.laid_unicode_utf8_acceptRanges), ("strconv.ErrRange", Rows.laid_strconv_ErrRange), ("strconv.ErrSyntax", Rows.laid_strconv_ErrSyntax), ("unicode/utf8.first", Rows.laid_unicode_utf8_first)] W := h0
 obtain ⟨aSyn, sSyn, hvSyn, -, -, -⟩ := laid_sentinel (h.tail.tail.tail.tail.tail) gSyn tySyn Tryz.underlying116 rowE Tryz.underlying189 Tryz.underlying191 rfl rfl Tryz.underlying9 cellsE cellsS
 obtain ⟨aRng, sRng, hvRng, -, -, -⟩ := laid_sentinel (h.tail.tail.tail.tail) gRng tyRng Tryz.underlying116 rowE Tryz.underlying189 Tryz.underlying191 rfl rfl Tryz.underlying9 cellsE cellsS
 refine ⟨⟨_, _, hvSyn⟩, ⟨_, _, hvRng⟩, ?_⟩
 have ht := h.tail.tail
 exact Lib.tabIs_of_head gTab tyTab Tryz.underlying181 Tryz.underlying44 (by kernel_rfl) (by kernel_rfl) ht
theorem door_met (os : Os) (args : Array Value) : laidMetH Tryz.prog laidL ((World.laidAll Tryz.prog os laidL).forCall (fun _ _ => 0) ⟨#[], args, []⟩).memory := by
 rw [MakeChecks.laidMetH_plain _ _ _ plainL]
 exact laidMet_laidAll _ (by kernel_rfl) (by kernel_rfl)
end Go.Proofs.YtiajlhjjmlakmaaGreatDoor
