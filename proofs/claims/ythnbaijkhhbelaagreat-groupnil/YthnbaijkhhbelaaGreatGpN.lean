/-
  Contract: a new group.
-/
import Derived.Test.YthnbaijkhhbelaaGreatGpD
import Derived.Deep.RegionLaw
namespace Go.Proofs.YthnbaijkhhbelaaGreat
open Go.RowKit Num
open scoped Classical
set_option linter.unusedVariables false
set_option maxRecDepth 100000

theorem Tryz.infoMb : (Tryz.prog.info? 68).map (fun i => (i.zero, i.size, i.bytes)) = some (some (.agg #[.int .i64 0, .int .i64 0, .int .i64 0, .int .i64 0, .int .i64 0, .slice none 0 0, .int .i64 0, .slice none 0 0, .slice none 0 0, .slice none 0 0, .slice none 0 0, .int .i64 0, .int .i64 0, .bool false]), 14, 192) := by kernel_rfl
theorem rows_new (w : World) (id n : Int) (hn : n.toNat ≤ 16) (cs : Array Value) (h1 : cs.size = n.toNat) (h2 : cs.toList = List.replicate n.toNat (.int .i64 0)) (G : Nat) (hG : w.heap.size = G) : RowsS G (w.alloc (.cells cs 3)) (newR id n) ⟨none, 0, some ⟨G, 0, none⟩, n.toNat, none, 0, none, 0, none, 0⟩ := by
  subst hG
  have hz := own_zeros w n.toNat hn cs h1 h2
  refine ⟨World.ownsRow_nil _ _ _ _, World.ownsRow_nil _ _ _ _, ?_, World.ownsRow_nil _ _ _ _, World.ownsRow_nil _ _ _ _, apart_nil _, apart_nil _, apart_nil _, apart_nil _⟩
  show World.ownsRow _ _ _ _ (.slice _ (List.replicate n.toNat (0 : Int)).length _) (List.replicate n.toNat (0 : Int)).length (inCells (List.replicate n.toNat 0))
  rw [List.length_replicate, inCells_rep]
  exact hz
theorem new_yesS (id n : Int) (h : OneOf id n) (w : World) : Calls Tryz.prog 32 #[.int .i64 id, .int .i64 n] w fun e w' => ∃ s, e = .returned (.tuple #[repV (newR id n) s, .int .i64 0]) ∧ RowsS w.heap.size w' (newR id n) s ∧ Below w.heap.size w w' := by
  have hn : 0 ≤ n ∧ n ≤ 16 := by have := h.1; omega
  have ho := fun W => oneOf_any id n W
  rw [tru_yes h] at ho
  obtain ⟨cs, hc1, hc2, hmk⟩ := made_ints n hn
  have hrows := fun (W : World) (G : Nat) (hG : W.heap.size = G) => rows_new W id n (by omega) cs hc1 hc2 G hG
  clear h hc1 hc2
  go_enter Tryz.func32, Tryz.ntmps32
  go_wp2_with (first
    | (go_at_call 57; refine (ho _).mono ?_; rintro e wn ⟨rfl, rfl⟩))
  refine bodyPost_ret (v := .tuple #[repV (newR id n) ⟨none, 0, some ⟨w.heap.size + 1, 0, none⟩, n.toNat, none, 0, none, 0, none, 0⟩, .int .i64 0]) (by simp [results, Tryz.results32, go_sem, newR, rep0]) rfl ⟨_, rfl, rowsS_deep (hrows _ _ (by simp)) (by omega), ((Below.refl _ w).alloc (Nat.le_refl _) _).alloc (by simp) _⟩
/-- Replicas as they begin. -/
def Num.begG (n : Int) (k : Nat) : Ups := (List.range k).map fun i : Nat => (newR (i : Int) n, true)
theorem beg_snoc (n : Int) (k : Nat) : begG n (k + 1) = begG n k ++ [(newR (k : Int) n, true)] := by simp [begG, List.range_succ]
theorem beg_len (n : Int) (k : Nat) : (begG n k).length = k := by simp [begG]
theorem mb_held (w : World) (m : Mbr) : Held (w.alloc (.cells (mbCells m).toArray 68)).drew (some ⟨w.heap.size, 0, none⟩) 1 14 (mbCells m) :=
  ⟨rfl, mb_one m, fun h => (by cases h), fun a h j u hj => by cases h; exact new_cells w 68 (mbCells m) _ rfl j u hj⟩
/-- While a group is made. -/
structure Num.MakeG (B : Nat) (w0 w : World) (g : Nat) (v : Value) (ms : List Mbr) : Prop where
  box : w.heap[g]? = some (.cells #[v, .slice none 0 0] 65 (0, 0))
  row : w.ownsRow B 68 14 v ms.length (mbsCells ms)
  reps : ∀ m ∈ ms, RowsS B w m.r m.s
  low : Below B w0 w
theorem Num.MakeG.below {B : Nat} {w0 w w' : World} {g : Nat} {v : Value} {ms : List Mbr} (h : MakeG B w0 w g v ms) (hB : B ≤ w.heap.size) (hb : Below w.heap.size w w') : MakeG B w0 w' g v ms :=
  ⟨(hb.block g (Array.getElem?_eq_some_iff.1 h.box).1).trans h.box, own_below h.row hb, fun m hm => (h.reps m hm).below hb, h.low.trans (hb.mono hB)⟩
/-- A member more. -/
theorem make_step {B : Nat} {w0 X : World} {g : Nat} {v : Value} {ms : List Mbr} (h : MakeG B w0 X g v ms) (hB : B ≤ X.heap.size) (hBg : B ≤ g) (hl : ms.length ≤ 5) (m : Mbr) (hm : RowsS B X m.r m.s) (ty : TypeId) :
    ∃ v' w4, (Builtin.append_ #[62, 62] ty #[v, .slice (some ⟨X.heap.size, 0, none⟩) 1 1]).run Tryz.prog (X.alloc (.cells (mbCells m).toArray 68)).drew = .ok v' w4 ∧
      w4.heap[g]? = some (.cells #[v, .slice none 0 0] 65 (0, 0)) ∧ (∃ ao cap, v' = .slice ao (ms.length + 1) cap) ∧ MakeG B w0 (w4.setCell ⟨g, 0, none⟩ v') g v' (ms ++ [m]) := by
  have hbY : Below X.heap.size X (X.alloc (.cells (mbCells m).toArray 68)).drew := ((Below.refl _ X).alloc (Nat.le_refl _) _).drew
  have h1 := h.below hB hbY
  have hBY := Nat.le_trans hB hbY.size
  obtain ⟨v', w4, hr, h2, h3, h4⟩ := run_app_g Tryz.underlying62 Tryz.infoMb (by decide) _ ty B v _ _ h1.row (some ⟨X.heap.size, 0, none⟩) 1 1 _ (mb_held X m) (by omega) hBY
  have hs : Stay (fun _ => False) 68 (X.alloc (.cells (mbCells m).toArray 68)).drew w4 := Stay.grown h1.row h3
  have hbox : w4.heap[g]? = some (.cells #[v, .slice none 0 0] 65 (0, 0)) := stay_box hs h1.box (by decide) id
  have hlow : Below B w0 w4 := h1.low.trans ((Below.refl B _).grown h3 hBY (fun j hj => (h1.row.lt j hj).1))
  have hs2 : Stay (fun _ => False) 65 w4 (w4.setCell ⟨g, 0, none⟩ v') := ⟨by simp [World.setCell], fun k hk _ hn => Below.heap_setCell _ _ _ _ (fun e => by subst e; exact hn _ _ hbox)⟩
  have hR : ∀ x ∈ ms ++ [m], RowsS B (w4.setCell ⟨g, 0, none⟩ v') x.r x.s := fun x hx => by
    have hx1 : RowsS B (X.alloc (.cells (mbCells m).toArray 68)).drew x.r x.s := by
      rcases List.mem_append.1 hx with hx | hx
      · exact h1.reps x hx
      · rw [List.mem_singleton.1 hx]
        exact hm.below hbY
    exact (hx1.stay hs (by decide) (by decide)).stay hs2 (by decide) (by decide)
  refine ⟨v', w4, hr, hbox, own_form h2, ⟨(heap_setCell_same w4 g 0 _ _ _ hbox).trans (by simp), ?_, hR, hlow.setCell (p := ⟨g, 0, none⟩) hBg _⟩⟩
  rw [mbs_snoc, List.length_append]
  exact own_stay h2 hs2 (by decide) (fun _ h => h)
set_option maxRecDepth 100000 in
set_option maxHeartbeats 1000000 in
theorem gnew_any (N : Nat) (hN : N = 1 ∨ N = 3 ∨ N = 5) (w : World) :
    Calls Tryz.prog 11 #[.int .i64 (N : Int)] w fun e w' => ∃ b, e = .returned (.tuple #[.pointer (some ⟨w.heap.size, 0, none⟩), .int .i64 0]) ∧ HoldG w.heap.size w' w.heap.size b (begG (N : Int) N) [] ∧ Below w.heap.size w w' := by
  have hmx : max (N : Int) 1 = (N : Int) := by omega
  have hn5 : (N : Int) ≤ 5 := by omega
  have HN : Hid (N = 1 ∨ N = 3 ∨ N = 5) := hN
  clear hN
  have h0 : MakeG w.heap.size w (w.alloc (.cells #[.slice none 0 0, .slice none 0 0] 65)) w.heap.size (.slice none 0 0) [] := ⟨heap_new w _, World.ownsRow_nil _ _ _ _, by simp, (Below.refl _ w).alloc (Nat.le_refl _) _⟩
  go_enter Tryz.func11, Tryz.ntmps11
  go_wp2
  go_loopw [12] (fun i wr => ∃ (k : Nat) (v : Value) (ms : List Mbr), k ≤ N ∧ i = .int .i64 (k : Int) ∧ Hid (ms.length = k) ∧ Hid (plainG ms = begG (N : Int) k) ∧ Hid (MakeG w.heap.size w wr w.heap.size v ms)) (fun i _ => N - (intOf i).toNat)
  case atStart => exact ⟨0, _, [], by omega, rfl, rfl, rfl, h0⟩
  case round =>
    clear h0
    obtain ⟨k, v, ms, hk, rfl, HL, HP, HM⟩ := hrel
    by_cases hkn : k < N
    · have i1 : (k : Int) < (N : Int) := by omega
      have hone : OneOf (k : Int) (N : Int) := ⟨by have := HN.out; omega, by omega, by omega⟩
      have hnew := new_yesS (k : Int) (N : Int) hone wr
      obtain ⟨R, hRe⟩ : ∃ R, newR (k : Int) (N : Int) = R := ⟨_, rfl⟩
      rw [hRe] at hnew
      have hbw0 := HM.out.low.size
      have HR : Hid (newR (k : Int) (N : Int) = R) := hRe
      clear hRe hone
      go_wp2_with (first
        | (go_at_call 32; refine hnew.mono ?_; rintro e w1 ⟨s, rfl, hR, hb⟩))
      have hbX : Below w1.heap.size w1 (w1.alloc (.cells #[.int .i64 R.id, .int .i64 R.n, .int .i64 R.view, .int .i64 R.normal, .int .i64 R.how, .slice s.lo R.log.length s.lc, .int .i64 R.commit, .slice s.ao R.acked.length s.ac, .slice s.vo R.votes.length s.vc, .slice s.wo R.voters.length s.wc, .slice s.bo R.best.length s.bc, .int .i64 R.bestView, .int .i64 R.bestDone] 46)) := (Below.refl _ w1).alloc (Nat.le_refl _) _
      have hbw := below_next hb (Nat.le_refl _) hbX
      have hMX := HM.out.below hbw0 hbw
      have hRX := rowsS_deep (hR.below hbX) hbw0
      have bE : (w1.alloc (.cells #[.int .i64 R.id, .int .i64 R.n, .int .i64 R.view, .int .i64 R.normal, .int .i64 R.how, .slice s.lo R.log.length s.lc, .int .i64 R.commit, .slice s.ao R.acked.length s.ac, .slice s.vo R.votes.length s.vc, .slice s.wo R.voters.length s.wc, .slice s.bo R.best.length s.bc, .int .i64 R.bestView, .int .i64 R.bestDone] 46)).heap[w1.heap.size]? = some (.cells #[.int .i64 R.id, .int .i64 R.n, .int .i64 R.view, .int .i64 R.normal, .int .i64 R.how, .slice s.lo R.log.length s.lc, .int .i64 R.commit, .slice s.ao R.acked.length s.ac, .slice s.vo R.votes.length s.vc, .slice s.wo R.voters.length s.wc, .slice s.bo R.best.length s.bc, .int .i64 R.bestView, .int .i64 R.bestDone] 46 (0, 0)) := heap_new w1 _
      have hBX := Nat.le_trans hbw0 hbw.size
      clear hbX hR HM hnew hb
      generalize w1.alloc (.cells #[.int .i64 R.id, .int .i64 R.n, .int .i64 R.view, .int .i64 R.normal, .int .i64 R.how, .slice s.lo R.log.length s.lc, .int .i64 R.commit, .slice s.ao R.acked.length s.ac, .slice s.vo R.votes.length s.vc, .slice s.wo R.voters.length s.wc, .slice s.bo R.best.length s.bc, .int .i64 R.bestView, .int .i64 R.bestDone] 46) = X at *
      obtain ⟨v', w4, hr, hbox4, ⟨ao4, cap4, rfl⟩, hM4⟩ := make_step hMX hBX (Nat.le_refl _) (by have := HL.out; omega) ⟨R, s, true⟩ hRX 62
      obtain ⟨ao, cap, hv⟩ := own_form hMX.row
      have c0 : X.cell? ⟨w.heap.size, 0, none⟩ = some v := box_cell hMX.box 0 _ rfl
      have d0 : w4.cell? ⟨w.heap.size, 0, none⟩ = some v := box_cell hbox4 0 _ rfl
      have y0 := box_open hbox4 0
      have hc4 := hM4.low.size
      rw [HL.out] at hv
      subst hv
      simp only [mbCells] at hr
      have c0z := fun ob : Obj => alloc_cell ob c0
      have e0 := box_cell bE 0 _ rfl
      have e1 := box_cell bE 1 _ rfl
      have e2 := box_cell bE 2 _ rfl
      have e3 := box_cell bE 3 _ rfl
      have e4 := box_cell bE 4 _ rfl
      have e5 := box_cell bE 5 _ rfl
      have e6 := box_cell bE 6 _ rfl
      have e7 := box_cell bE 7 _ rfl
      have e8 := box_cell bE 8 _ rfl
      have e9 := box_cell bE 9 _ rfl
      have e10 := box_cell bE 10 _ rfl
      have e11 := box_cell bE 11 _ rfl
      have e12 := box_cell bE 12 _ rfl
      have HM4 : Hid (MakeG w.heap.size w (w4.setCell ⟨w.heap.size, 0, none⟩ (.slice ao4 (ms.length + 1) cap4)) w.heap.size (.slice ao4 (ms.length + 1) cap4) (ms ++ [⟨R, s, true⟩])) := hM4
      have hp4 : Hid (plainG (ms ++ [⟨R, s, true⟩]) = begG (N : Int) (k + 1)) := by
        unfold Hid
        rw [beg_snoc, HR.out, ← HP.out]
        simp [plainG]
      clear hM4 hMX hRX bE hbox4 hbw
      go_region_law (refine step_app_run rfl (.tmp 28) (.tmp 31) 62 rfl (.slice ao k cap) (.slice (some ⟨X.heap.size, 0, none⟩) 1 1) (by simp [Act.eval]) (by simp [Act.eval]) hr ?_)
      all_goals
        clear c0 c0z d0 y0 e0 e1 e2 e3 e4 e5 e6 e7 e8 e9 e10 e11 e12 hr
        go_wp2
        go_roundw
        case rel => exact ⟨k + 1, _, _, by omega, by go_num, (show (ms ++ [(⟨R, s, true⟩ : Mbr)]).length = k + 1 by rw [List.length_append, HL.out]; rfl), hp4, HM4⟩
        case measure => simp [intOf]; omega
    · obtain rfl : k = N := by omega
      have hM := HM.out
      have hNN := HN.out
      have hll := HL.out
      go_wp2
      refine bodyPost_ret (v := .tuple #[.pointer (some ⟨w.heap.size, 0, none⟩), .int .i64 0]) (by simp [results, Tryz.results11, go_sem]) rfl ?_
      obtain ⟨b, C, hv⟩ : ∃ b C, v = .slice (some ⟨b, 0, none⟩) ms.length C := by
        rcases hM.row.2 with ⟨_, h0⟩ | ⟨b, C, cur, hv, _⟩
        · exact absurd h0 (by omega)
        · exact ⟨b, C, hv⟩
      subst hv
      exact ⟨b, rfl, ⟨C, none, 0, ms, ⟨hM.box, hM.row, OwnS.nil _ _ _ _ _, hM.reps, Nat.le_refl _, hM.low.size⟩, HP.out⟩, hM.low⟩
end Go.Proofs.YthnbaijkhhbelaaGreat
