/-
  The document's Parse: whole. (Written by mksqz.py.)
-/
import Derived.Test.YtiajlhjjmlakmaaGreatDoorSqYo
import Derived.Test.YtiajlhjjmlakmaaGreatDoorSqYp
import Derived.Test.YtiajlhjjmlakmaaGreatDoorSqYq
import Derived.Test.YtiajlhjjmlakmaaGreatDoorSqYr
namespace Go.Proofs.YtiajlhjjmlakmaaGreatDoor
open Go.RowKit Num
set_option linter.unusedSimpArgs false
set_option linter.unusedVariables false
set_option linter.unusedVariables false
set_option maxRecDepth 100000

/-- THE DOCUMENT'S PARSE WHOLE. -/
theorem dparse_any (s : ByteArray) (w : World) :
    Calls Tryz.prog 5 #[.string s] w fun e w' => ParseEnd w.heap.size (parseG s) e w' ∧ Below w.heap.size w w' := by
  by_cases hs : s.size ≤ 400
  · rcases hl : lexAt s 0 with ⟨o, q⟩
    cases o with
    | none => exact dparse_bad s hs q hl w
    | some l =>
      obtain ⟨hE, hne, hlen⟩ := lex_ends s hs hl
      obtain ⟨hL, h0⟩ := lexL_of (congrArg Prod.fst hl)
      rw [parseG_L hs hl, ← parse_same hL h0]
      cases hbc : isD l ⟨#[99, 114, 101, 97, 116, 101]⟩ ⟨0, false, 0, false⟩ with
      | true =>
        cases hbs : isD l ⟨#[59]⟩ (createD l ⟨0, false, 0, false⟩).2 with
        | false => exact dparse_w2 s hs l q hl hE h0 hlen hbc hbs w
        | true => exact dparse_w3 s hs l q hl hE h0 hlen hbc hbs w
      | false =>
        cases hbd : isD l ⟨#[100, 114, 111, 112]⟩ ⟨0, false, 0, false⟩ with
        | true =>
          cases hbs : isD l ⟨#[59]⟩ (dropD l ⟨0, false, 0, false⟩).2 with
          | false => exact dparse_w6 s hs l q hl hE h0 hlen hbc hbd hbs w
          | true => exact dparse_w7 s hs l q hl hE h0 hlen hbc hbd hbs w
        | false =>
          cases hba : isD l ⟨#[97, 108, 116, 101, 114]⟩ ⟨0, false, 0, false⟩ with
          | true =>
            cases hbs : isD l ⟨#[59]⟩ (alterD l ⟨0, false, 0, false⟩).2 with
            | false => exact dparse_w4 s hs l q hl hE h0 hlen hbc hbd hbs hba w
            | true => exact dparse_w5 s hs l q hl hE h0 hlen hbc hbd hbs hba w
          | false =>
            cases hbs : isD l ⟨#[59]⟩ (rowsD l ⟨0, false, 0, false⟩).2 with
            | false => exact dparse_w0 s hs l q hl hE h0 hlen hbc hbd hbs hba w
            | true => exact dparse_w1 s hs l q hl hE h0 hlen hbc hbd hbs hba w
  · exact dparse_long s hs w
end Go.Proofs.YtiajlhjjmlakmaaGreatDoor
