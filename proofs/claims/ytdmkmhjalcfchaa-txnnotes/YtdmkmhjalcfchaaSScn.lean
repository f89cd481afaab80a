/-
  Contracts of what a store tells of several keys: the keys between two, Since, Scan.
-/
import Derived.Test.YtdmkmhjalcfchaaSRd
import Derived.Deep.RegionHeldLaw
namespace Go.Proofs.Ytdmkmhjalcfchaa
open Go.RowKit Go.Maps Num
open scoped Classical
set_option linter.unusedVariables false
set_option maxRecDepth 100000

/-- 'len' of a map, as a step of a statement whose order is drawn. -/
theorem step_len_map {ops : Array Oper} {o : Oper} {a : Act} {w : World} {K : Act → World → Prop} {Q : Exit → Act → World → Prop} {E : Prop} (hgd : o.guard = none) (m : Operand)
    (ho : o.op = .call { callee := .builtin .len, args := #[m], argTypes := #[103] }) (gm n : Nat) (D : DataW Value) (hm : a.eval m = .map (some gm)) (hown : OwnM w gm n D) (N : Nat) (hN : Maps.size D = N)
    (h : K (a.put o.dst (.int .i64 (N : Int))) w) : if Region.wanted o (yielded ops a.tmps) = true then Oper.wp Try.prog o a w K Q else E := by
  have hw : Region.wanted o (yielded ops a.tmps) = true := by simp [Region.wanted, hgd]
  rw [if_pos hw]
  have hr := hown.len Try.underlying103 o.type
  rw [hN] at hr
  unfold Oper.wp execOp
  simp only [ho, resolve, invoke, builtin, Sem.run_bind, Sem.run_pure, Result.andThen_ok, List.map_toArray, List.map_cons, List.map_nil, hm, hr]
  exact h
set_option maxRecDepth 100000 in
set_option maxHeartbeats 1000000 in
theorem between_own (B g gm : Nat) (st : Sto) (D : DataW Value) (blk capf : ByteArray → Nat) (ao : Option Addr) (cap : Nat) (ps : Pages) (lo hi : ByteArray) (hn : st.vs.length ≤ 4200) (w : World) (h : StoAt B w g gm st D blk capf ao cap ps) :
    Calls Try.prog 52 #[.pointer (some ⟨g, 0, none⟩), .string lo, .string hi] w fun e w' => ∃ ao' cap', e = .returned (.slice ao' (betw ps lo hi).length cap') ∧ w'.ownsRow w.heap.size 52 2 (.slice ao' (betw ps lo hi).length cap') (betw ps lo hi).length (prCells (betw ps lo hi)) ∧ Below w.heap.size w w' := by
  obtain ⟨c0, c1, c2, c3, c4⟩ := sto_cells h
  obtain ⟨hf1, hf2⟩ := keys_few h.keys
  have hscan : ∀ w1, Below w.heap.size w w1 → Calls Try.prog 65 #[.slice ao ps.length cap, .string lo, .string hi, .int .i64 (ps.flatten.length : Int)] w1 fun e w' => ∃ ao' cap', e = .returned (.slice ao' (betw ps lo hi).length cap') ∧ w'.ownsRow w1.heap.size 52 2 (.slice ao' (betw ps lo hi).length cap') (betw ps lo hi).length (prCells (betw ps lo hi)) ∧ Below w1.heap.size w1 w' := by
    intro w1 hb
    obtain ⟨ao2, cap2, e2, hl2⟩ := ownPs_lies h.pages
    cases e2
    have hs := scan_own ps h.keys.1 ao cap lo hi (ps.flatten.length : Int) (by omega) (by omega) w1 (liesPg_next hl2 hb hb.size)
    rw [betw_scan ps lo hi _ (Int.le_refl _)] at hs
    exact hs
  have hm := h.map
  have hsz := h.size
  clear h c0 c1 c2 hf1 hf2 hn
  generalize betw ps lo hi = out at *
  generalize ps.flatten.length = N at *
  have hbd : Below w.heap.size w w.drew := (Below.refl _ w).drew
  have hkeep : ∀ w1, Below w.drew.heap.size w.drew w1 → w1.cell? ⟨g, 3, none⟩ = some (.map (some gm)) ∧ w1.cell? ⟨g, 4, none⟩ = some (.slice ao ps.length cap) ∧ Below w.heap.size w w1 := fun w1 hb => by
    have h0 := hbd.trans hb
    exact ⟨(h0.cell (cell_lt c3)).trans c3, (h0.cell (cell_lt c4)).trans c4, h0⟩
  go_enter Try.func52, Try.ntmps52
  go_wp2_with fail
  go_region_held_law (fun w' => w'.cell? ⟨g, 3, none⟩ = some (.map (some gm)) ∧ w'.cell? ⟨g, 4, none⟩ = some (.slice ao ps.length cap) ∧ Below w.heap.size w w') (first | exact ⟨c3, c4, hbd⟩ | exact hkeep _ hb1)
    (first
      | (refine step_len_map rfl _ rfl gm N D rfl hm.drew N hsz ?_)
      | (go_at_call 65; refine (hscan _ hbd).mono ?_; rintro e w1 ⟨ao1, cap1, rfl, hl1, hb1⟩))
  go_wp2
  go_ret
  exact ⟨ao1, cap1, rfl, hl1, hbd.trans hb1⟩
theorem between_any (B g gm : Nat) (st : Sto) (D : DataW Value) (blk capf : ByteArray → Nat) (ao : Option Addr) (cap : Nat) (ps : Pages) (lo hi : ByteArray) (hn : st.vs.length ≤ 4200) (w : World) (h : StoAt B w g gm st D blk capf ao cap ps) :
    Calls Try.prog 52 #[.pointer (some ⟨g, 0, none⟩), .string lo, .string hi] w fun e w' => ∃ ao' cap', e = .returned (.slice ao' (betw ps lo hi).length cap') ∧ LiesPr w' w'.heap.size ao' (betw ps lo hi) ∧ Below w.heap.size w w' := by
  refine (between_own B g gm st D blk capf ao cap ps lo hi hn w h).mono ?_
  rintro e w1 ⟨ao1, cap1, rfl, hown, hb⟩
  obtain ⟨ao2, cap2, e2, hl, _⟩ := own_lies hown
  cases e2
  exact ⟨ao1, cap1, rfl, hl, hb⟩
theorem any_take {α : Type} {l : List α} {f : α → Bool} (h : ∀ (j : Nat) x, j < l.length → l[j]? = some x → f x = false) : l.any f = false := by
  rw [List.any_eq_false]
  intro x hx
  obtain ⟨j, hj⟩ := List.mem_iff_getElem?.1 hx
  rw [h j x (List.getElem?_eq_some_iff.1 hj).1 hj]
  simp
theorem take_all {α : Type} {acc r : List α} {n : Int} (h : acc = [] ∨ (acc.length : Int) ≤ n) (hn : n ≤ (acc.length : Int)) : (acc ++ r).take n.toNat = acc := by
  rcases h with rfl | h
  · have : n.toNat = 0 := by
      simp at hn
      omega
    rw [this]
    rfl
  · rw [show n.toNat = acc.length by omega, List.take_left]
theorem take_few {α : Type} {acc : List α} {n : Int} (h : acc = [] ∨ (acc.length : Int) ≤ n) : acc.take n.toNat = acc := by
  rcases h with rfl | h
  · simp
  · exact List.take_of_length_le (by omega)
set_option maxRecDepth 100000 in
set_option maxHeartbeats 2000000 in
theorem sscan_any (B g : Nat) (st : Sto) (t : Int) (lo hi : ByteArray) (n : Int) (hn : st.vs.length ≤ 4200) (w : World) (h : HoldP B w g st) (r : List Pr) (hr : ScanIs st.vs t lo hi r) :
    Calls Try.prog 25 #[.pointer (some ⟨g, 0, none⟩), .int .i64 t, .string lo, .string hi, .int .i64 n] w fun e w' => ∃ ao' cap', e = .returned (.slice ao' (r.take n.toNat).length cap') ∧ w'.ownsRow w.heap.size 52 2 (.slice ao' (r.take n.toNat).length cap') (r.take n.toNat).length (prCells (r.take n.toNat)) ∧ Below w.heap.size w w' := by
  have hh := h
  obtain ⟨gm, D, blk, capf, ao, cap, ps, h⟩ := h
  have hbet := between_any B g gm st D blk capf ao cap ps lo hi hn w h
  obtain rfl := scan_one hr (scan_is h.keys t lo hi)
  have hsm : ∀ x ∈ betw ps lo hi, x.key.size ≤ maxLen := fun x hx => keys_small h.keys h.small x (List.mem_filter.1 hx).1
  have hlen : (betw ps lo hi).length ≤ 4200 := by
    have h1 := (keys_few h.keys).1
    have h2 : (betw ps lo hi).length ≤ ps.flatten.length := List.length_filter_le _ _
    omega
  have hget : ∀ (x : Pr) w1, x.key.size ≤ maxLen → Below w.heap.size w w1 → Calls Try.prog 36 #[.pointer (some ⟨g, 0, none⟩), .int .i64 t, .string x.key] w1 fun e w' => e = .returned (.tuple #[.string (lookS (getV st.vs x.key t)), .bool (lookB (getV st.vs x.key t))]) ∧ Below w1.heap.size w1 w' := fun x w1 hx hb => sget_any B g st t x.key hx hn w1 (hh.below hb)
  clear hh h hr
  generalize betw ps lo hi = xs at *
  generalize st.vs = vs at *
  obtain ⟨out, hout⟩ : ∃ out, (scanV vs t xs).take n.toNat = out := ⟨_, rfl⟩
  have HOUT : Hid ((scanV vs t xs).take n.toNat = out) := hout
  rw [hout]
  clear hout
  go_enter Try.func25, Try.ntmps25
  go_wp2_with (first
    | (go_at_call 52; refine hbet.mono ?_; rintro e w1 ⟨ao1, cap1, rfl, hl1, hb1⟩))
  go_loopw [11, 23] (fun v i wr => ∃ (k : Nat) (acc : List Pr), k ≤ xs.length ∧ i = .int .i64 (k : Int) ∧ Below w1.heap.size w1 wr ∧ wr.ownsRow w1.heap.size 52 2 v acc.length (prCells acc) ∧ acc.length ≤ k ∧ Hid (acc = scanV vs t (xs.take k) ∧ (acc = [] ∨ (acc.length : Int) ≤ n))) (fun _ i _ => xs.length - (intOf i).toNat)
  case atStart => exact ⟨0, [], by omega, rfl, Below.refl _ _, World.ownsRow_nil _ _ _ _, Nat.le_refl _, rfl, .inl rfl⟩
  case round =>
    obtain ⟨k, acc, hk, rfl, hbel, hown, hak, HF⟩ := hrel
    have hbw := below_next hb1 (Nat.le_refl _) hbel
    have hsz := hbel.size
    by_cases hkl : k < xs.length
    · have HX : Hid (xs[k]? = some xs[k]) := List.getElem?_eq_getElem hkl
      obtain ⟨a, rfl, hblk, e0, e1⟩ := (liesPr_next hl1 hbel hbel.size) k xs[k] HX.out
      have hxs := hsm xs[k] (List.getElem_mem hkl)
      generalize xs[k] = x at *
      by_cases hnn : n ≤ (acc.length : Int)
      · obtain ⟨rr, hrr⟩ := scanV_take vs t xs k
        have hres : (scanV vs t xs).take n.toNat = acc := by
          rw [hrr, ← HF.out.1]
          exact take_all HF.out.2 hnn
        obtain rfl : acc = out := hres.symm.trans HOUT.out
        have hOO := own_mono (hown.alloc (.cells #[.string x.key, .string x.val] 52)) hb1.size
        obtain ⟨ao2, cap2, rfl, _, _⟩ := own_lies hOO
        clear hres hrr HF HX HOUT
        go_wp2
        go_ret
        exact ⟨ao2, cap2, rfl, hOO, hbw.alloc hbw.size _⟩
      · have hc := hget x (wr.alloc (.cells #[.string x.key, .string x.val] 52)) hxs (hbw.alloc hbw.size _)
        have hnn2 : (acc.length : Int) < n := by omega
        have kx : ∀ w2, Below (wr.alloc (.cells #[.string x.key, .string x.val] 52)).heap.size (wr.alloc (.cells #[.string x.key, .string x.val] 52)) w2 → w2.cell? ⟨wr.heap.size, 0, none⟩ = some (.string x.key) := fun w2 hb => by
          have h0 : (wr.alloc (.cells #[.string x.key, .string x.val] 52)).cell? ⟨wr.heap.size, 0, none⟩ = some (.string x.key) := box_cell (heap_new wr _) 0 _ rfl
          exact (hb.cell (cell_lt h0)).trans h0
        obtain ⟨ao3, cap3, rfl, _, _⟩ := own_lies hown
        cases hG : getV vs x.key t with
        | none =>
          rw [hG, show lookS none = ⟨#[]⟩ from rfl, show lookB none = false from rfl] at hc
          have HF2 : Hid (acc = scanV vs t (xs.take (k + 1)) ∧ (acc = [] ∨ (acc.length : Int) ≤ n)) := by
            refine ⟨?_, HF.out.2⟩
            rw [take_succ_at HX.out, scanV_snoc, hG, ← HF.out.1]
            simp
          clear HX HF hG
          go_wp2_with (first
            | (go_at_call 36; refine hc.mono ?_; rintro e w2 ⟨rfl, hb2⟩))
          go_roundw
          case rel =>
            have hb3 : Below wr.heap.size wr w2 := below_box0 hb2
            exact ⟨k + 1, acc, by omega, by go_num, hbel.trans (hb3.mono hsz), own_below hown hb3, by omega, HF2.out⟩
          case measure => simp [intOf]; omega
        | some y =>
          rw [hG, show lookS (some y) = y from rfl, show lookB (some y) = true from rfl] at hc
          have HF2 : Hid (acc ++ [(⟨x.key, y⟩ : Pr)] = scanV vs t (xs.take (k + 1)) ∧ (acc ++ [(⟨x.key, y⟩ : Pr)] = [] ∨ ((acc ++ [(⟨x.key, y⟩ : Pr)]).length : Int) ≤ n)) := by
            refine ⟨?_, .inr (by simp; omega)⟩
            rw [take_succ_at HX.out, scanV_snoc, hG, ← HF.out.1]
          clear HX HF hG
          go_wp2_with (first
            | (go_at_call 36; refine hc.mono ?_; rintro e w2 ⟨rfl, hb2⟩
               have kx2 := kx w2 hb2
               have hb3 : Below wr.heap.size wr w2 := below_box0 hb2
               have hown2 := own_below hown hb3
               have s3 := hb3.size)
            | (at_builtin; refine wpList_appX _ rfl _ _ 22 rfl 52 2 32 Try.underlying22 Try.infoPr w1.heap.size _ acc.length (prCells acc) rfl (hown2.alloc _) ⟨w2.heap.size, 0, none⟩ 1 [.string x.key, .string y] rfl rfl (one2 ⟨x.key, y⟩) (new_cells _ _ [.string x.key, .string y] _ rfl) ⟨by omega, by decide, by decide, rfl⟩ (by simp; omega) ?_; intro v3 w3 hown3 hbel3 hst3))
          go_roundw
          case rel => exact ⟨k + 1, acc ++ [(⟨x.key, y⟩ : Pr)], by omega, by go_num, ((hbel.trans (hb3.mono hsz)).alloc (by omega) _).trans hbel3, by rw [List.length_append, prCells_append]; exact hown3, by simp only [List.length_append, List.length_singleton]; omega, HF2.out⟩
          case measure => simp [intOf]; omega
    · obtain rfl : k = xs.length := by omega
      have hres : (scanV vs t xs).take n.toNat = acc := by
        have := HF.out.1
        rw [List.take_length] at this
        rw [← this]
        exact take_few HF.out.2
      obtain rfl : acc = out := hres.symm.trans HOUT.out
      have hOO := own_mono hown hb1.size
      obtain ⟨ao2, cap2, rfl, _, _⟩ := own_lies hOO
      clear hres HF HOUT
      go_wp2
      go_ret
      exact ⟨ao2, cap2, rfl, hOO, hbw⟩
end Go.Proofs.Ytdmkmhjalcfchaa
