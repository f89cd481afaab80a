/-
  The document's reader of a statement on rows, whole (17.1).
-/
import Derived.Test.YtiajlhjjmlakmaaGreatDoorSqYg
import Derived.Test.YtiajlhjjmlakmaaGreatDoorSqYh
import Derived.Test.YtiajlhjjmlakmaaGreatDoorSqYi
namespace Go.Proofs.YtiajlhjjmlakmaaGreatDoor
open Go.RowKit Num
set_option linter.unusedSimpArgs false
set_option linter.unusedVariables false
theorem pr1 (x : Unit × DS) : x = ((), x.2) := rfl
theorem pr2 {α : Type} (x : α × DS) : x = (x.1, x.2) := rfl
theorem pr4 (x : Val × DS) : x = (⟨x.1.1, x.1.2, x.1.3, x.1.4⟩, x.2) := rfl
theorem drows_any {g : Nat} {v : Value} {l : List Tok} (hE : EndK l) {S : DS} (w : World) (hP : DAt g v l S w) :
    Calls Tryz.prog 21 #[.pointer (some ⟨g, 0, none⟩)] w (DTells g v l S w VX (rowsD l S)) := by
  rcases Bool.eq_false_or_eq_true (isD l ⟨#[105, 110, 115, 101, 114, 116]⟩ S) with h1 | h1
  · exact dinsert_w0 hE h1 (pr1 _) (pr1 _) (pr2 _) (pr2 _) (pr1 _) (pr1 _) (pr4 _) (pr2 _) (pr1 _) (pr1 _) w hP
  · rcases Bool.eq_false_or_eq_true (isD l ⟨#[117, 112, 100, 97, 116, 101]⟩ S) with h2 | h2
    · exact drows_w0 hE h1 h2 (pr1 _) (pr2 _) (pr1 _) (pr2 _) (pr2 _) w hP
    · rcases Bool.eq_false_or_eq_true (isD l ⟨#[100, 101, 108, 101, 116, 101]⟩ S) with h3 | h3
      · exact drows_w1 hE h1 h2 h3 (pr1 _) (pr1 _) (pr2 _) (pr2 _) w hP
      · rcases Bool.eq_false_or_eq_true (isD l ⟨#[42]⟩ (eatD l ⟨#[115, 101, 108, 101, 99, 116]⟩ S).2) with h4 | h4
        · exact drows_w2 hE h1 h2 h3 (pr1 _) h4 (pr1 _) (pr1 _) (pr2 _) (pr2 _) w hP
        · exact dselect_w0 hE h1 h2 h3 (pr1 _) h4 (pr2 _) (pr2 _) (pr1 _) (pr1 _) (pr2 _) (pr2 _) w hP
end Go.Proofs.YtiajlhjjmlakmaaGreatDoor
