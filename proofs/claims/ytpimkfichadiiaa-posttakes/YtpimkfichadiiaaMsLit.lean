/-
  Lists of one message that a statement lays: they lie there; held against one another.
-/
import Derived.Test.YtpimkfichadiiaaMsDbl
import Derived.Test.YtpimkfichadiiaaMsCmp
namespace Go.Proofs.Ytpimkfichadiiaa
open Go.RowKit Num
set_option linter.unusedVariables false

theorem lit_lies {W : World} {b B : Nat} {m : Msg} {bo : Option Addr} {c : Nat} (h : W.heap[b]? = some (.cells #[.int .i64 m.a0, .int .i64 m.a1, .int .i64 m.a2, .int .i64 m.a3, .int .i64 m.a4, .int .i64 m.a5, .int .i64 m.a6, .slice bo m.log.length c] 29 (0, 0))) (hle : LiesE W B bo m.log) (hb : b < B) : LiesM W B (some ⟨b, 0, none⟩) [m] := by
  intro i x hx
  cases i with
  | succ i => simp at hx
  | zero =>
    cases hx
    refine ⟨_, rfl, hb, ?_⟩
    rw [Nat.zero_mul, addr_zero]
    exact ⟨box_cell h 0 _ rfl, box_cell h 1 _ rfl, box_cell h 2 _ rfl, box_cell h 3 _ rfl, box_cell h 4 _ rfl, box_cell h 5 _ rfl, box_cell h 6 _ rfl, bo, c, box_cell h 7 _ rfl, hle⟩
/-- Two lists of the same message. -/
theorem msgs_lits (W : World) (b : Nat) (hb : W.heap.size = b) (m : Msg) (bo bo2 : Option Addr) (c c2 : Nat) (hlog : m.log.length ≤ 1000000) (h : LiesE W W.heap.size bo m.log) (h2 : LiesE W W.heap.size bo2 m.log) :
    Calls Try.prog 10 #[.slice (some ⟨b, 0, none⟩) 1 1, .slice (some ⟨b + 1, 0, none⟩) 1 1] ((W.alloc (.cells #[.int .i64 m.a0, .int .i64 m.a1, .int .i64 m.a2, .int .i64 m.a3, .int .i64 m.a4, .int .i64 m.a5, .int .i64 m.a6, .slice bo m.log.length c] 29)).alloc (.cells #[.int .i64 m.a0, .int .i64 m.a1, .int .i64 m.a2, .int .i64 m.a3, .int .i64 m.a4, .int .i64 m.a5, .int .i64 m.a6, .slice bo2 m.log.length c2] 29)) fun e w' => e = .returned (.bool true) ∧ Below W.heap.size W w' := by
  subst hb
  have hbel : Below W.heap.size W ((W.alloc (.cells #[.int .i64 m.a0, .int .i64 m.a1, .int .i64 m.a2, .int .i64 m.a3, .int .i64 m.a4, .int .i64 m.a5, .int .i64 m.a6, .slice bo m.log.length c] 29)).alloc (.cells #[.int .i64 m.a0, .int .i64 m.a1, .int .i64 m.a2, .int .i64 m.a3, .int .i64 m.a4, .int .i64 m.a5, .int .i64 m.a6, .slice bo2 m.log.length c2] 29)) := ((Below.refl _ W).alloc (Nat.le_refl _) _).alloc (by simp) _
  refine (msgs_same (some ⟨W.heap.size, 0, none⟩) (some ⟨W.heap.size + 1, 0, none⟩) 1 1 [m] (by simp) (by simpa using hlog) _
    (lit_lies (alloc_box _ (heap_new W _)) (liesE_next h hbel hbel.size) (by rw [World.size_alloc, World.size_alloc]; omega)) (lit_lies (heap_newB _ _ _ (by simp)) (liesE_next h2 hbel hbel.size) (by rw [World.size_alloc, World.size_alloc]; omega))).mono ?_
  rintro e w' ⟨he, hb⟩
  exact ⟨he, below_next hbel (Nat.le_refl _) hb⟩
theorem ownO_cap {B : Nat} {w : World} {ao : Option Addr} {n cap : Nat} {l : Msgs} (h : OwnO B w (.slice ao n cap) l) : l.length ≤ cap := by
  obtain ⟨_, _, _, h3, _⟩ := h
  rcases h3.2 with ⟨hv, h0⟩ | ⟨g, cap', cur, hv, _, _, h1, _⟩
  · omega
  · cases hv
    exact h1
/-- The place of a number among so many. -/
theorem place_mod (a : Int) (m : Nat) (hm : 0 < m) : ∃ u k : Nat, IntKind.u64.wrap a = (u : Int) ∧ (u : Int) % (m : Int) = (k : Int) ∧ k < m := by
  obtain ⟨u, hu⟩ : ∃ u : Nat, IntKind.u64.wrap a = (u : Int) := ⟨(IntKind.u64.wrap a).toNat, by rw [IntKind.wrap_u64]; omega⟩
  exact ⟨u, u % m, hu, by omega, Nat.mod_lt _ hm⟩
end Go.Proofs.Ytpimkfichadiiaa
