/-
  Bytes of a row that the call itself has made: read, written one by one, turned into a text.
-/
import Derived.Test.YtbhaahkjglfjmaaSSum
import Derived.Lib.ConvBytes
namespace Go.Proofs.Ytbhaahkjglfjmaa
open Go.RowKit Num
set_option linter.unusedVariables false

/-- In block g lie the bytes l, and may be written. -/
def Num.Byt (W : World) (g : Nat) (l : List UInt8) : Prop := ∀ j (hj : j < l.length), W.cell? ⟨g, j, none⟩ = some (.int .u8 (l[j].toNat : Int)) ∧ W.frozen? ⟨g, j, none⟩ = false

/-- '[]byte(s)': a new row that holds the bytes. -/
theorem bytes_fresh (s : ByteArray) (w : World) : ∃ cap W, (convert 9 46 (.string s)).run Try.prog w = .ok (.slice (some ⟨w.heap.size, 0, none⟩) s.size cap) W ∧
    Below w.heap.size w W ∧ Byt W w.heap.size s.data.toList := by
  refine ⟨_, _, Go.Lib.run_convert_string_bytes w 9 46 5 s Try.underlying9 Try.underlying46 Try.underlying5, ?_, ?_⟩
  · refine ⟨rfl, rfl, rfl, ?_, fun k hk => Go.Lib.bytesWorld_at_old w _ s k hk⟩
    rw [Go.Lib.bytesWorld_size]
    omega
  · intro j hj
    have hd : s.data.toList.length = s.size := rfl
    constructor
    · rw [Go.Lib.bytesWorld_cell w _ s j (by omega)]
      simp [List.getD, List.getElem?_eq_getElem hj]
    · simp only [World.frozen?, Go.Lib.bytesWorld_at_new]
      simp [Go.Lib.bytesCells]
      intro h
      omega
theorem Num.Byt.set {W : World} {g : Nat} {l : List UInt8} (h : Byt W g l) (k : Nat) (hk : k < l.length) (c : UInt8) (x : Int) (hx : x = (c.toNat : Int)) : Byt (W.setCell ⟨g, k, none⟩ (.int .u8 x)) g (l.set k c) := by
  subst hx
  intro j hj0
  have hj : j < l.length := by rw [List.length_set] at hj0; exact hj0
  constructor
  · by_cases hjk : j = k
    · subst hjk
      rw [World.cell?_setCell_same' _ _ _ (by rw [(h j hj).1]; rfl), List.getElem_set_self]
    · rw [World.cell?_setCell_other W _ _ _ (show (⟨g, k, none⟩ : Addr) ≠ ⟨g, j, none⟩ by intro e; cases e; exact hjk rfl), (h j hj).1, List.getElem_set_ne (fun e => hjk e.symm)]
  · rw [World.frozen?_setCell]
    exact (h j hj).2
theorem Num.Byt.conv {W : World} {g : Nat} {l : List UInt8} (h : Byt W g l) (cap n : Nat) (hn : n = l.length) :
    (convert 46 9 (.slice (some ⟨g, 0, none⟩) n cap)).run Try.prog W = .ok (.string (str l)) W := by
  subst hn
  refine run_convert_bytes_back W 46 9 5 ⟨g, 0, none⟩ cap l Try.underlying46 Try.underlying5 Try.underlying9 ?_
  intro j hj
  rw [Addr.add_lit, Nat.zero_add]
  exact (h j hj).1
/-- The place of a number among so many. -/
theorem place_mod (a : Int) (m : Nat) (hm : 0 < m) : ∃ u k : Nat, IntKind.u64.wrap a = (u : Int) ∧ (u : Int) % (m : Int) = (k : Int) ∧ k < m := by
  obtain ⟨u, hu⟩ : ∃ u : Nat, IntKind.u64.wrap a = (u : Int) := ⟨(IntKind.u64.wrap a).toNat, by rw [IntKind.wrap_u64]; omega⟩
  exact ⟨u, u % m, hu, by omega, Nat.mod_lt _ hm⟩
end Go.Proofs.Ytbhaahkjglfjmaa
