/-
  The document's reader of a create, whole (17.1).
-/
import Derived.Test.YtiajlhjjmlakmaaGreatDoorSqYj
import Derived.Test.YtiajlhjjmlakmaaGreatDoorSqYe
import Derived.Test.YtiajlhjjmlakmaaGreatDoorSqYk
namespace Go.Proofs.YtiajlhjjmlakmaaGreatDoor
open Go.RowKit Num
set_option linter.unusedSimpArgs false
set_option linter.unusedVariables false
theorem dcreate_any {g : Nat} {v : Value} {l : List Tok} (hE : EndK l) {S : DS} (w : World) (hP : DAt g v l S w) :
    Calls Tryz.prog 17 #[.pointer (some ⟨g, 0, none⟩)] w (DTells g v l S w VX (createD l S)) := by
  rcases Bool.eq_false_or_eq_true (isD l ⟨#[116, 97, 98, 108, 101]⟩ (eatD l ⟨#[99, 114, 101, 97, 116, 101]⟩ S).2) with h1 | h1
  · exact dtable_w0 hE (pr1 _) h1 (pr1 _) (pr2 _) (pr1 _) (pr2 _) (pr1 _) w hP
  · rcases Bool.eq_false_or_eq_true (isD l ⟨#[117, 110, 105, 113, 117, 101]⟩ (eatD l ⟨#[99, 114, 101, 97, 116, 101]⟩ S).2) with h2 | h2
    · exact dindex_w0 hE (pr1 _) h1 h2 (pr1 _) (pr1 _) (pr2 _) (pr1 _) (pr2 _) (pr2 _) w hP
    · exact dindex_w1 hE (pr1 _) h1 h2 (pr1 _) (pr2 _) (pr1 _) (pr2 _) (pr2 _) w hP
end Go.Proofs.YtiajlhjjmlakmaaGreatDoor
