/-
  Contracts: package sql's Parse. (Written by mksqj.py.)
-/
import Derived.Test.YtiajlhjjmlakmaaGreatDoorSqG
import Derived.Test.YtiajlhjjmlakmaaGreatDoorSqI
namespace Go.Proofs.YtiajlhjjmlakmaaGreatDoor
open Go.RowKit Num
set_option linter.unusedSimpArgs false
set_option linter.unusedVariables false
set_option linter.unusedVariables false
set_option maxRecDepth 100000

/-- What Parse tells. -/
def Num.ParseEnd (B : Nat) (o : Option Stm × Nat × Int) (e : Ending) (w' : World) : Prop := match o.1 with
  | none => e = .returned (.tuple #[.agg #[.int .i64 0, .string ⟨#[]⟩, .string ⟨#[]⟩, .slice none 0 0, .slice none 0 0, .slice none 0 0, .slice none 0 0, .bool false, .int .i64 0, .slice none 0 0], .int .i64 (o.2.1 : Int), .int .i64 o.2.2])
  | some x => ∃ t : SS, e = .returned (.tuple #[.agg #[.int .i64 x.kind, .string x.table, .string x.name, .slice t.co x.cols.length t.cc, .slice t.vo x.vals.length t.vc, .slice t.so x.sets.length t.sc, .slice t.qo x.conds.length t.qc, .bool x.uniq, .int .i64 x.type, .slice t.yo x.types.length t.yc], .int .i64 (o.2.1 : Int), .int .i64 o.2.2]) ∧ OwnS B w' t x
theorem bel_kp {B g : Nat} {w W W' : World} (h : Below B w W) (hk : W.grownBy W' (some g)) (hg : B ≤ g) (hB : B ≤ W.heap.size) : Below B w W' :=
  h.grown hk hB (fun j hj => by cases hj; exact hg)
theorem bel_sets {B b : Nat} {w : World} (hb : B ≤ b) : ∀ {W : World} (h : Below B w W) (k : Nat) (us : List Value), Below B w (setsW W b k us)
  | _, h, _, [] => h
  | _, h, k, u :: us => bel_sets hb (h.setCell (p := ⟨b, k, none⟩) hb u) (k + 1) us
theorem place_of {l : List Tok} {j : Nat} {q : List TkC} {x : Tok} (hx : l[j]? = some x) (h : rem l j = q) : placeAt l q = x.p := by
  have hj := (List.getElem?_eq_some_iff.1 hx).1
  unfold placeAt
  rw [← h, rem_len, show l.length - (l.length - j) = j by omega, hx]
  rfl
theorem boxes3 (w : World) : Bx (((w.alloc (.cells #[.int .i64 0, .string ⟨#[]⟩, .string ⟨#[]⟩, .slice none 0 0, .slice none 0 0, .slice none 0 0, .slice none 0 0, .bool false, .int .i64 0, .slice none 0 0] 28)).alloc (.cells #[.int .i64 0] 3)).alloc (.cells #[.int .i64 0] 29)) (w.heap.size) 28 #[.int .i64 0, .string ⟨#[]⟩, .string ⟨#[]⟩, .slice none 0 0, .slice none 0 0, .slice none 0 0, .slice none 0 0, .bool false, .int .i64 0, .slice none 0 0] ∧ Bx (((w.alloc (.cells #[.int .i64 0, .string ⟨#[]⟩, .string ⟨#[]⟩, .slice none 0 0, .slice none 0 0, .slice none 0 0, .slice none 0 0, .bool false, .int .i64 0, .slice none 0 0] 28)).alloc (.cells #[.int .i64 0] 3)).alloc (.cells #[.int .i64 0] 29)) (w.heap.size + 1) 3 #[.int .i64 0] ∧ Bx (((w.alloc (.cells #[.int .i64 0, .string ⟨#[]⟩, .string ⟨#[]⟩, .slice none 0 0, .slice none 0 0, .slice none 0 0, .slice none 0 0, .bool false, .int .i64 0, .slice none 0 0] 28)).alloc (.cells #[.int .i64 0] 3)).alloc (.cells #[.int .i64 0] 29)) (w.heap.size + 1 + 1) 29 #[.int .i64 0] ∧ Below w.heap.size w (((w.alloc (.cells #[.int .i64 0, .string ⟨#[]⟩, .string ⟨#[]⟩, .slice none 0 0, .slice none 0 0, .slice none 0 0, .slice none 0 0, .bool false, .int .i64 0, .slice none 0 0] 28)).alloc (.cells #[.int .i64 0] 3)).alloc (.cells #[.int .i64 0] 29)) :=
  ⟨((Bx.newB rfl).alloc _).alloc _, (Bx.newB (by simp)).alloc _, Bx.newB (by simp), (((Below.refl _ w).alloc (Nat.le_refl _) _).alloc (by simp) _).alloc (by simp; omega) _⟩
theorem doorQ_nil {R : Ending → World → Prop} (b : Nat) (tmps : Array Value) (h2 : tmps[2]? = some (.pointer (some ⟨b, 0, none⟩))) (h3 : tmps[3]? = some (.pointer (some ⟨b + 1, 0, none⟩))) (h4 : tmps[4]? = some (.pointer (some ⟨b + 1 + 1, 0, none⟩))) (W : World) (v0 v1 v2 v3 v4 v5 v6 v7 v8 v9 y3 y4 : Value)
    (k2 : Bx W b 28 #[v0, v1, v2, v3, v4, v5, v6, v7, v8, v9]) (k3 : Bx W (b + 1) 3 #[y3]) (k4 : Bx W (b + 1 + 1) 29 #[y4]) (h : R (.returned (.tuple #[.agg #[v0, v1, v2, v3, v4, v5, v6, v7, v8, v9], y3, y4])) W) :
    bodyPostD Tryz.prog Tryz.f4 R Exit.ret { tmps := tmps, defers := [] } W := by
  have c0 : W.cell? ⟨b, 0, none⟩ = some v0 := k2.cell 0 _ rfl
  have c1 : W.cell? ⟨b, 1, none⟩ = some v1 := k2.cell 1 _ rfl
  have c2 : W.cell? ⟨b, 2, none⟩ = some v2 := k2.cell 2 _ rfl
  have c3 : W.cell? ⟨b, 3, none⟩ = some v3 := k2.cell 3 _ rfl
  have c4 : W.cell? ⟨b, 4, none⟩ = some v4 := k2.cell 4 _ rfl
  have c5 : W.cell? ⟨b, 5, none⟩ = some v5 := k2.cell 5 _ rfl
  have c6 : W.cell? ⟨b, 6, none⟩ = some v6 := k2.cell 6 _ rfl
  have c7 : W.cell? ⟨b, 7, none⟩ = some v7 := k2.cell 7 _ rfl
  have c8 : W.cell? ⟨b, 8, none⟩ = some v8 := k2.cell 8 _ rfl
  have c9 : W.cell? ⟨b, 9, none⟩ = some v9 := k2.cell 9 _ rfl
  have d3 : W.cell? ⟨b + 1, 0, none⟩ = some y3 := k3.cell 0 _ rfl
  have d4 : W.cell? ⟨b + 1 + 1, 0, none⟩ = some y4 := k4.cell 0 _ rfl
  exact ⟨_, by simp [results, Tryz.f4, h2, h3, h4, c0, c1, c2, c3, c4, c5, c6, c7, c8, c9, d3, d4, go_sem], h⟩
theorem box10 {W : World} {b : Nat} {v0 v1 v2 v3 v4 v5 v6 v7 v8 v9 : Value} (k2 : Bx W b 28 #[v0, v1, v2, v3, v4, v5, v6, v7, v8, v9]) (u0 u1 u2 u3 u4 u5 u6 u7 u8 u9 : Value) : Bx (setsW W b 0 [u0, u1, u2, u3, u4, u5, u6, u7, u8, u9]) b 28 #[u0, u1, u2, u3, u4, u5, u6, u7, u8, u9] := by
  have a0 : Bx (W.setCell ⟨b, 0, none⟩ u0) b 28 #[u0, v1, v2, v3, v4, v5, v6, v7, v8, v9] := Bx.set k2 0 u0
  have a1 : Bx ((W.setCell ⟨b, 0, none⟩ u0).setCell ⟨b, 1, none⟩ u1) b 28 #[u0, u1, v2, v3, v4, v5, v6, v7, v8, v9] := Bx.set a0 1 u1
  have a2 : Bx (((W.setCell ⟨b, 0, none⟩ u0).setCell ⟨b, 1, none⟩ u1).setCell ⟨b, 2, none⟩ u2) b 28 #[u0, u1, u2, v3, v4, v5, v6, v7, v8, v9] := Bx.set a1 2 u2
  have a3 : Bx ((((W.setCell ⟨b, 0, none⟩ u0).setCell ⟨b, 1, none⟩ u1).setCell ⟨b, 2, none⟩ u2).setCell ⟨b, 3, none⟩ u3) b 28 #[u0, u1, u2, u3, v4, v5, v6, v7, v8, v9] := Bx.set a2 3 u3
  have a4 : Bx (((((W.setCell ⟨b, 0, none⟩ u0).setCell ⟨b, 1, none⟩ u1).setCell ⟨b, 2, none⟩ u2).setCell ⟨b, 3, none⟩ u3).setCell ⟨b, 4, none⟩ u4) b 28 #[u0, u1, u2, u3, u4, v5, v6, v7, v8, v9] := Bx.set a3 4 u4
  have a5 : Bx ((((((W.setCell ⟨b, 0, none⟩ u0).setCell ⟨b, 1, none⟩ u1).setCell ⟨b, 2, none⟩ u2).setCell ⟨b, 3, none⟩ u3).setCell ⟨b, 4, none⟩ u4).setCell ⟨b, 5, none⟩ u5) b 28 #[u0, u1, u2, u3, u4, u5, v6, v7, v8, v9] := Bx.set a4 5 u5
  have a6 : Bx (((((((W.setCell ⟨b, 0, none⟩ u0).setCell ⟨b, 1, none⟩ u1).setCell ⟨b, 2, none⟩ u2).setCell ⟨b, 3, none⟩ u3).setCell ⟨b, 4, none⟩ u4).setCell ⟨b, 5, none⟩ u5).setCell ⟨b, 6, none⟩ u6) b 28 #[u0, u1, u2, u3, u4, u5, u6, v7, v8, v9] := Bx.set a5 6 u6
  have a7 : Bx ((((((((W.setCell ⟨b, 0, none⟩ u0).setCell ⟨b, 1, none⟩ u1).setCell ⟨b, 2, none⟩ u2).setCell ⟨b, 3, none⟩ u3).setCell ⟨b, 4, none⟩ u4).setCell ⟨b, 5, none⟩ u5).setCell ⟨b, 6, none⟩ u6).setCell ⟨b, 7, none⟩ u7) b 28 #[u0, u1, u2, u3, u4, u5, u6, u7, v8, v9] := Bx.set a6 7 u7
  have a8 : Bx (((((((((W.setCell ⟨b, 0, none⟩ u0).setCell ⟨b, 1, none⟩ u1).setCell ⟨b, 2, none⟩ u2).setCell ⟨b, 3, none⟩ u3).setCell ⟨b, 4, none⟩ u4).setCell ⟨b, 5, none⟩ u5).setCell ⟨b, 6, none⟩ u6).setCell ⟨b, 7, none⟩ u7).setCell ⟨b, 8, none⟩ u8) b 28 #[u0, u1, u2, u3, u4, u5, u6, u7, u8, v9] := Bx.set a7 8 u8
  have a9 : Bx ((((((((((W.setCell ⟨b, 0, none⟩ u0).setCell ⟨b, 1, none⟩ u1).setCell ⟨b, 2, none⟩ u2).setCell ⟨b, 3, none⟩ u3).setCell ⟨b, 4, none⟩ u4).setCell ⟨b, 5, none⟩ u5).setCell ⟨b, 6, none⟩ u6).setCell ⟨b, 7, none⟩ u7).setCell ⟨b, 8, none⟩ u8).setCell ⟨b, 9, none⟩ u9) b 28 #[u0, u1, u2, u3, u4, u5, u6, u7, u8, u9] := Bx.set a8 9 u9
  exact a9
theorem Num.OwnS.bel {B : Nat} {w w' : World} {t : SS} {x : Stm} (h : OwnS B w t x) (hb : Below w.heap.size w w') : OwnS B w' t x := ⟨own_mem h.cols hb, own_mem h.vals hb, own_mem h.sets hb, own_mem h.conds hb, own_mem h.types hb⟩
theorem Num.OwnS.low {B b : Nat} {w : World} {t : SS} {x : Stm} (h : OwnS B w t x) (hb : b < B) (i : Nat) (u : Value) : OwnS B (w.setCell ⟨b, i, none⟩ u) t x := h.kp (kp_setG (World.grownBy.refl w (some b)) i u) hb
set_option maxHeartbeats 4000000 in
/-- Where the tokens are refused. -/
theorem parse_lex (s : ByteArray) (p : Nat) (E : Int) (hE : ¬ E = 0) (hL : ∀ W, Glob W → Calls Tryz.prog 9 #[.string s] W fun e w' => e = .returned (.tuple #[.slice none 0 0, .int .i64 (p : Int), .int .i64 E]) ∧ Below W.heap.size W w') (w : World) (hG : Glob w) :
    Calls Tryz.prog 4 #[.string s] w fun e w' => e = .returned (.tuple #[.agg #[.int .i64 0, .string ⟨#[]⟩, .string ⟨#[]⟩, .slice none 0 0, .slice none 0 0, .slice none 0 0, .slice none 0 0, .bool false, .int .i64 0, .slice none 0 0], .int .i64 (p : Int), .int .i64 E]) ∧ Below w.heap.size w w' := by
  obtain ⟨k2, k3, k4, hB0⟩ := boxes3 w
  have hEb : (E != 0) = true := by simpa using hE
  go_enter_defers Tryz.func4, Tryz.ntmps4
  go_wp2_with (first
    | (go_at_call 9; refine (hL _ (hG.below hB0)).mono ?_; rintro e w1 ⟨rfl, hb1⟩
       have j2 : Bx w1 (w.heap.size) 28 #[.int .i64 0, .string ⟨#[]⟩, .string ⟨#[]⟩, .slice none 0 0, .slice none 0 0, .slice none 0 0, .slice none 0 0, .bool false, .int .i64 0, .slice none 0 0] := heap_next k2 hb1
       have j3 : Bx w1 (w.heap.size + 1) 3 #[.int .i64 0] := heap_next k3 hb1
       have j4 : Bx w1 (w.heap.size + 1 + 1) 29 #[.int .i64 0] := heap_next k4 hb1
       have c0 : w1.cell? ⟨w.heap.size, 0, none⟩ = some (.int .i64 0) := j2.cell 0 _ rfl
       have oc0 := j2.open 0
       have c1 : w1.cell? ⟨w.heap.size, 1, none⟩ = some (.string ⟨#[]⟩) := j2.cell 1 _ rfl
       have oc1 := j2.open 1
       have c2 : w1.cell? ⟨w.heap.size, 2, none⟩ = some (.string ⟨#[]⟩) := j2.cell 2 _ rfl
       have oc2 := j2.open 2
       have c3 : w1.cell? ⟨w.heap.size, 3, none⟩ = some (.slice none 0 0) := j2.cell 3 _ rfl
       have oc3 := j2.open 3
       have c4 : w1.cell? ⟨w.heap.size, 4, none⟩ = some (.slice none 0 0) := j2.cell 4 _ rfl
       have oc4 := j2.open 4
       have c5 : w1.cell? ⟨w.heap.size, 5, none⟩ = some (.slice none 0 0) := j2.cell 5 _ rfl
       have oc5 := j2.open 5
       have c6 : w1.cell? ⟨w.heap.size, 6, none⟩ = some (.slice none 0 0) := j2.cell 6 _ rfl
       have oc6 := j2.open 6
       have c7 : w1.cell? ⟨w.heap.size, 7, none⟩ = some (.bool false) := j2.cell 7 _ rfl
       have oc7 := j2.open 7
       have c8 : w1.cell? ⟨w.heap.size, 8, none⟩ = some (.int .i64 0) := j2.cell 8 _ rfl
       have oc8 := j2.open 8
       have c9 : w1.cell? ⟨w.heap.size, 9, none⟩ = some (.slice none 0 0) := j2.cell 9 _ rfl
       have oc9 := j2.open 9
       have d3 : w1.cell? ⟨w.heap.size + 1, 0, none⟩ = some (.int .i64 0) := j3.cell 0 _ rfl
       have g3 := j3.open 0
       have d4 : w1.cell? ⟨w.heap.size + 1 + 1, 0, none⟩ = some (.int .i64 0) := j4.cell 0 _ rfl
       have g4 := j4.open 0))
  go_region
  all_goals
    go_wp2
    refine doorQ_nil w.heap.size _ rfl rfl rfl _ _ _ _ _ _ _ _ _ _ _ _ _ ((((box10 ((j2.other (by omega) 0 _).other (by omega) 0 _) (.int .i64 0) (.string ⟨#[]⟩) (.string ⟨#[]⟩) (.slice none 0 0) (.slice none 0 0) (.slice none 0 0) (.slice none 0 0) (.bool false) (.int .i64 0) (.slice none 0 0)).other (by omega) 0 _).other (by omega) 0 _).drew) ((((((j3.set 0 _).other (by omega) 0 _).others (c := w.heap.size) (by omega) 0 [.int .i64 0, .string ⟨#[]⟩, .string ⟨#[]⟩, .slice none 0 0, .slice none 0 0, .slice none 0 0, .slice none 0 0, .bool false, .int .i64 0, .slice none 0 0]).set 0 _).other (by omega) 0 _).drew) ((((((j4.other (by omega) 0 _).set 0 _).others (c := w.heap.size) (by omega) 0 [.int .i64 0, .string ⟨#[]⟩, .string ⟨#[]⟩, .slice none 0 0, .slice none 0 0, .slice none 0 0, .slice none 0 0, .bool false, .int .i64 0, .slice none 0 0]).other (by omega) 0 _).set 0 _).drew) ⟨rfl, ?_⟩
    exact (((bel_sets (Nat.le_refl w.heap.size) (((below_next hB0 (Nat.le_refl _) hb1).setCell (p := ⟨w.heap.size + 1, 0, none⟩) (by simp) (.int .i64 (p : Int))).setCell (p := ⟨w.heap.size + 1 + 1, 0, none⟩) (by simp; omega) (.int .i64 E)) 0 [.int .i64 0, .string ⟨#[]⟩, .string ⟨#[]⟩, .slice none 0 0, .slice none 0 0, .slice none 0 0, .slice none 0 0, .bool false, .int .i64 0, .slice none 0 0]).setCell (p := ⟨w.heap.size + 1, 0, none⟩) (by simp) (.int .i64 (p : Int))).setCell (p := ⟨w.heap.size + 1 + 1, 0, none⟩) (by simp; omega) (.int .i64 E)).drew
theorem lex_ends (s : ByteArray) (hs : s.size ≤ 400) {l : List Tok} {q0 : Nat} (hl : lexAt s 0 = (some l, q0)) : EndK l ∧ l ≠ [] ∧ l.length ≤ 401 := by
  unfold lexAt at hl
  have h := lexG_endK _ _ _ l (congrArg Prod.fst hl)
  have hd : s.data.toList.length = s.size := rfl
  rw [List.drop_zero, hd] at h
  exact ⟨h.1, h.2.1, by omega⟩
theorem parseG_L {s : ByteArray} (hs : s.size ≤ 400) {l : List Tok} {q0 : Nat} (hl : lexAt s 0 = (some l, q0)) : parseG s = Num.parseL l := by
  unfold parseG
  rw [if_neg (by omega), hl]
theorem rem_zero (l : List Tok) : rem l 0 = l.map cont := by simp [rem]
end Go.Proofs.YtiajlhjjmlakmaaGreatDoor
