/-
  A group in memory: its box, the row of its members, what is under way; what its calls leave as it was.
-/
import Derived.Test.YthnbaijkhhbelaaGreatRpPrP
import Derived.Test.YthnbaijkhhbelaaGreatRpSame
import Derived.Test.YthnbaijkhhbelaaGreatMsAdd
namespace Go.Proofs.YthnbaijkhhbelaaGreat
open Go.RowKit Num
open scoped Classical
set_option linter.unusedVariables false
set_option maxRecDepth 100000

/-- A member: a replica, where its lists lie, whether it runs. -/
structure Num.Mbr where
  r : Rep
  s : Sl
  up : Bool
def Num.mbCells (m : Mbr) : List Value := [.int .i64 m.r.id, .int .i64 m.r.n, .int .i64 m.r.view, .int .i64 m.r.normal, .int .i64 m.r.how, .slice m.s.lo m.r.log.length m.s.lc, .int .i64 m.r.commit, .slice m.s.ao m.r.acked.length m.s.ac, .slice m.s.vo m.r.votes.length m.s.vc, .slice m.s.wo m.r.voters.length m.s.wc, .slice m.s.bo m.r.best.length m.s.bc, .int .i64 m.r.bestView, .int .i64 m.r.bestDone, .bool m.up]
def Num.mbsCells (l : List Mbr) : List Value := l.flatMap mbCells
theorem mb_len (m : Mbr) : (mbCells m).length = 14 := rfl
theorem mb_one (m : Mbr) : ∀ u ∈ mbCells m, u.oneCell' = true := by
  intro u hu
  simp only [mbCells, List.mem_cons, List.not_mem_nil, or_false] at hu
  rcases hu with rfl | rfl | rfl | rfl | rfl | rfl | rfl | rfl | rfl | rfl | rfl | rfl | rfl | rfl <;> rfl
theorem mbs_len (l : List Mbr) : (mbsCells l).length = l.length * 14 := by
  induction l with
  | nil => rfl
  | cons m l ih =>
    show (mbCells m ++ mbsCells l).length = _
    rw [List.length_append, ih, mb_len]
    simp
    omega
theorem mbs_snoc (l : List Mbr) (m : Mbr) : mbsCells (l ++ [m]) = mbsCells l ++ mbCells m := by simp [mbsCells]
theorem mbs_at : ∀ (l : List Mbr) (i : Nat) (m : Mbr) (k : Nat), l[i]? = some m → k < 14 → (mbsCells l)[i * 14 + k]? = (mbCells m)[k]?
  | [], i, m, k, h, hk => by simp at h
  | x :: l, 0, m, k, h, hk => by
    simp at h
    subst h
    show (mbCells x ++ mbsCells l)[0 * 14 + k]? = _
    rw [List.getElem?_append_left (by rw [mb_len]; omega)]
    congr 1
    omega
  | x :: l, i + 1, m, k, h, hk => by
    show (mbCells x ++ mbsCells l)[(i + 1) * 14 + k]? = _
    rw [List.getElem?_append_right (by rw [mb_len]; omega), mb_len, show (i + 1) * 14 + k - 14 = i * 14 + k by omega]
    exact mbs_at l i m k (by simpa using h) hk
theorem mbs_set : ∀ (l : List Mbr) (i : Nat) (m : Mbr) (k : Nat) (v : Value) (x : Mbr), l[i]? = some m → k < 14 → (mbCells m).set k v = mbCells x → (mbsCells l).set (i * 14 + k) v = mbsCells (l.set i x)
  | [], i, m, k, v, x, h, hk, e => by simp at h
  | y :: l, 0, m, k, v, x, h, hk, e => by
    simp at h
    subst h
    show (mbCells y ++ mbsCells l).set (0 * 14 + k) v = mbCells x ++ mbsCells l
    rw [List.set_append_left _ _ (by rw [mb_len]; omega), ← e]
    congr 2
    omega
  | y :: l, i + 1, m, k, v, x, h, hk, e => by
    show (mbCells y ++ mbsCells l).set ((i + 1) * 14 + k) v = mbCells y ++ mbsCells (l.set i x)
    rw [List.set_append_right _ _ (by rw [mb_len]; omega), mb_len, show (i + 1) * 14 + k - 14 = i * 14 + k by omega, mbs_set l i m k v x (by simpa using h) hk e]
/-- But for the blocks g and b all that was there is as it was. -/
structure Num.Save (g b : Nat) (w w' : World) : Prop where
  os : w'.os = w.os
  tape : w'.tape = w.tape
  output : w'.output = w.output
  size : w.heap.size ≤ w'.heap.size
  block : ∀ k, k < w.heap.size → k ≠ g → k ≠ b → w'.heap[k]? = w.heap[k]?
theorem Num.Save.refl (g b : Nat) (w : World) : Save g b w w := ⟨rfl, rfl, rfl, Nat.le_refl _, fun _ _ _ _ => rfl⟩
theorem Num.Save.trans {g b : Nat} {u v w : World} (h : Save g b u v) (k : Save g b v w) : Save g b u w :=
  ⟨k.os.trans h.os, k.tape.trans h.tape, k.output.trans h.output, Nat.le_trans h.size k.size, fun i hi h1 h2 => (k.block i (Nat.lt_of_lt_of_le hi h.size) h1 h2).trans (h.block i hi h1 h2)⟩
theorem Num.Save.of_below {w w' : World} (h : Below w.heap.size w w') (g b : Nat) : Save g b w w' := ⟨h.os, h.tape, h.output, h.size, fun k hk _ _ => h.block k hk⟩
theorem Num.Save.below {g b B : Nat} {w w' : World} (h : Save g b w w') (h1 : B ≤ g) (h2 : B ≤ b) (h3 : B ≤ w.heap.size) : Below B w w' := ⟨h.os, h.tape, h.output, h.size, fun k hk => h.block k (by omega) (by omega) (by omega)⟩
theorem Num.Save.drew {g b : Nat} {u w : World} (h : Save g b u w) : Save g b u w.drew := ⟨h.os, h.tape, h.output, h.size, h.block⟩
theorem Num.Save.grown {g b : Nat} {w w' : World} (k : Nat) (h : w.grownBy w' (some k)) (hk : k = g ∨ k = b) : Save g b w w' :=
  ⟨h.os, h.tape, h.output, h.size, fun i hi h1 h2 => h.block i hi (fun e => by cases e; rcases hk with hk | hk <;> omega)⟩
theorem own_save {g b : Nat} {w w' : World} (h : Save g b w w') {B e sz n : Nat} {v : Value} {xs : List Value} (hr : w.ownsRow B e sz v n xs) (h1 : v.ownBlock ≠ some g) (h2 : v.ownBlock ≠ some b) : w'.ownsRow B e sz v n xs := by
  refine ⟨hr.1, ?_⟩
  rcases hr.2 with h0 | ⟨k, cap, cur, hv, hb, hg, r⟩
  · exact .inl h0
  · subst hv
    exact .inr ⟨k, cap, cur, rfl, hb, (h.block k (Array.getElem?_eq_some_iff.1 hg).1 (fun e => h1 (by rw [e]; rfl)) (fun e => h2 (by rw [e]; rfl))).trans hg, r⟩
/-- Block g is a group: b the block of its members. -/
structure Num.GrpAt (B : Nat) (w : World) (g b cap : Nat) (no : Option Addr) (nc : Nat) (ms : List Mbr) (net : Msgs) : Prop where
  box : w.heap[g]? = some (.cells #[.slice (some ⟨b, 0, none⟩) ms.length cap, .slice no net.length nc] 65 (0, 0))
  row : w.ownsRow B 68 14 (.slice (some ⟨b, 0, none⟩) ms.length cap) ms.length (mbsCells ms)
  net : OwnO B w (.slice no net.length nc) net
  reps : ∀ m ∈ ms, RowsS B w m.r m.s
  base : B ≤ g
  heap : B ≤ w.heap.size
theorem Num.GrpAt.bound {B : Nat} {w : World} {g b cap : Nat} {no : Option Addr} {nc : Nat} {ms : List Mbr} {net : Msgs} (h : GrpAt B w g b cap no nc ms net) : B ≤ b ∧ b < w.heap.size ∧ g < w.heap.size ∧ b ≠ g := by
  have h1 := h.row.lt b rfl
  refine ⟨h1.1, h1.2, (Array.getElem?_eq_some_iff.1 h.box).1, fun e => ?_⟩
  rcases h.row.2 with ⟨hv, _⟩ | ⟨k, _, cur, hv, _, hg, _⟩
  · cases hv
  · cases hv
    rw [e, h.box] at hg
    cases hg
theorem Num.GrpAt.below {B : Nat} {w w' : World} {g b cap : Nat} {no : Option Addr} {nc : Nat} {ms : List Mbr} {net : Msgs} (h : GrpAt B w g b cap no nc ms net) (hb : Below w.heap.size w w') : GrpAt B w' g b cap no nc ms net :=
  ⟨(hb.block g h.bound.2.2.1).trans h.box, own_below h.row hb, ownO_below h.net hb, fun m hm => (h.reps m hm).below hb, h.base, Nat.le_trans h.heap hb.size⟩
theorem Num.GrpAt.drew {B : Nat} {w : World} {g b cap : Nat} {no : Option Addr} {nc : Nat} {ms : List Mbr} {net : Msgs} (h : GrpAt B w g b cap no nc ms net) : GrpAt B w.drew g b cap no nc ms net := h.below (Below.refl _ _).drew
theorem Num.GrpAt.cells {B : Nat} {w : World} {g b cap : Nat} {no : Option Addr} {nc : Nat} {ms : List Mbr} {net : Msgs} (h : GrpAt B w g b cap no nc ms net) : w.cell? ⟨g, 0, none⟩ = some (.slice (some ⟨b, 0, none⟩) ms.length cap) ∧ w.cell? ⟨g, 1, none⟩ = some (.slice no net.length nc) ∧ ∀ k, w.frozen? ⟨g, k, none⟩ = false :=
  ⟨box_cell h.box 0 _ rfl, box_cell h.box 1 _ rfl, fun k => box_open h.box k⟩
theorem own_cellS {w : World} {B e sz n g c i : Nat} {xs : List Value} {u : Value} (h : w.ownsRow B e sz (.slice (some ⟨g, 0, none⟩) n c) n xs) (hu : xs[i]? = some u) : w.cell? ⟨g, i, none⟩ = some u := by
  have h1 := h.cells (g := g) rfl i u hu
  by_cases hi : i = 0
  · subst hi
    simpa [Addr.add] using h1
  · simpa [Addr.add, hi] using h1
theorem own_freeS {w : World} {B e sz n g c : Nat} {xs : List Value} (h : w.ownsRow B e sz (.slice (some ⟨g, 0, none⟩) n c) n xs) (q : Nat) : w.frozen? ⟨g, q, none⟩ = false := by
  rcases h.2 with ⟨hv, _⟩ | ⟨g', cap, cur, hv, _, hg, _⟩
  · cases hv
  · cases hv
    simp [World.frozen?, hg]
/-- The cells of the member at i. -/
theorem Num.GrpAt.at {B : Nat} {w : World} {g b cap : Nat} {no : Option Addr} {nc : Nat} {ms : List Mbr} {net : Msgs} (h : GrpAt B w g b cap no nc ms net) {i : Nat} {m : Mbr} (hm : ms[i]? = some m) :
    (∀ k u, k < 14 → (mbCells m)[k]? = some u → w.cell? ⟨b, i * 14 + k, none⟩ = some u) ∧ ∀ k, w.frozen? ⟨b, k, none⟩ = false :=
  ⟨fun k u hk hu => own_cellS h.row ((mbs_at ms i m k hm hk).trans hu), fun k => own_freeS h.row k⟩
end Go.Proofs.YthnbaijkhhbelaaGreat
