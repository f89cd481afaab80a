/-
  A statement whose order Go leaves open, and whose callees make memory of their own: one walk in the order of the text serves every order, where each callee returns the same value in every world that is, below a mark, as it was.
-/
import Derived.Test.YtiajlhjjmlakmaaGreatDoorSBase
namespace Go.Proofs.YtiajlhjjmlakmaaGreatDoor
open Go.RowKit Num

/-- A world that is as w was, but for new memory. -/
structure Low (w : World) where
  wd : World
  low : Below w.heap.size w wd

theorem Low.some (w : World) : Nonempty (Low w) := ⟨⟨w, Below.refl _ _⟩⟩

theorem wp_region_low {P : Program} {id : Nat} {Q : Exit → Act → World → Prop} {a : Act} {w : World} {l : List Oper} (hm : P.follows .mixedOrders = true) (hB : Region.lexB .any l.toArray = true)
    (h : Nonempty (Low w) → wpQuiet P l.toArray (fun w' => ∃ x : Low w, w' = x.wd) (fun a' => ∀ w', (∃ x : Low w, w' = x.wd) → Q .normal a' w') l a) : (Code.region id l.toArray true).wp P Q a w :=
  wp_region_quiet (C := fun w' => ∃ x : Low w, w' = x.wd) hm hB ⟨⟨_, (Below.refl _ w).drew⟩, rfl⟩ (by simpa using h (Low.some w))

theorem Calls.low_of {P : Program} {f : FuncId} {args : Array Value} {w : World} {x : Low w} {v : Value}
    (h : Calls P f args x.wd fun e w' => e = .returned v ∧ Below x.wd.heap.size x.wd w') : Calls P f args x.wd fun e w'' => e = .returned v ∧ ∃ y : Low w, w'' = y.wd :=
  h.mono fun _ w'' ⟨he, hb⟩ => ⟨he, ⟨w'', below_next x.low (Nat.le_refl _) hb⟩, rfl⟩
theorem Calls.low_of_same {P : Program} {f : FuncId} {args : Array Value} {w : World} {x : Low w} {v : Value}
    (h : Calls P f args x.wd fun e w' => e = .returned v ∧ w' = x.wd) : Calls P f args x.wd fun e w'' => e = .returned v ∧ ∃ y : Low w, w'' = y.wd :=
  h.mono fun _ _ ⟨he, hb⟩ => ⟨he, x, hb⟩
theorem Low.cell {w : World} (x : Low w) {p : Addr} (hp : p.block < w.heap.size) : x.wd.cell? p = w.cell? p := x.low.cell hp
end Go.Proofs.YtiajlhjjmlakmaaGreatDoor
