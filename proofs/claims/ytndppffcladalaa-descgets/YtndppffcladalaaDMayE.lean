/-
  Contracts: what package desc asks of tables, but for their names (6.2).
-/
import Derived.Test.YtndppffcladalaaDMayD
import Derived.Deep.AppendLies
import Derived.Deep.RegionLaw
namespace Go.Proofs.Ytndppffcladalaa
open Go.RowKit Num
open scoped Classical
set_option linter.unusedVariables false

/-- What is asked of a table. -/
structure Num.TabM (t : Tab) : Prop where
  next : 1 ≤ t.next ∧ t.next ≤ 60000
  ncols : 1 ≤ (t.cols.length : Int) ∧ (t.cols.length : Int) ≤ 8
  nidxs : ¬ 4 < (t.idxs.length : Int)
  cols : ∀ c ∈ t.cols, ColM c
  key : ∀ f, t.cols[0]? = some f → KeyM f
  names : NamesOk (t.cols.map Colm.name)
  idxs : IxsM t.idxs (t.cols.map Colm.id)
  ids : IdsM t
theorem addr_zero (a : Addr) : a.add 0 = a := if_pos rfl
theorem heap_drew {w : World} {b : Nat} {x : Option Obj} (h : w.heap[b]? = x) : w.drew.heap[b]? = x := h
theorem heap_newB (w : World) (o : Obj) (b : Nat) (hb : w.heap.size = b) : (w.alloc o).heap[b]? = some o := by
  subst hb
  exact heap_new w o
theorem stepN {ops : Array Oper} {o : Oper} {a : Act} {K : Act → World → Prop} {Q : Exit → Act → World → Prop} {E : Prop} (w : World) (hgd : o.guard = none) (s x : Operand)
    (ho : o.op = .call { callee := .builtin .append, args := #[s, x], argTypes := #[50, 50] })
    (base : Nat) (v : Value) (l : List Int) (hs : a.eval s = v) (hown : RowN base w v l)
    (ad : Addr) (c : Nat) (y : Int) (hx : a.eval x = .slice (some ad) 1 c) (hnews : ∀ j u, [(Value.int .i64) y][j]? = some u → w.cell? (ad.add j) = some u)
    (hb : l.length ≤ 100000) (hbase : base ≤ w.heap.size)
    (h : ∀ v' w', RowN base w' v' (l ++ [y]) → Below base w w' → Stay (fun _ => False) 3 w w' → K (a.put o.dst v') w') :
    if Region.wanted o (yielded ops a.tmps) = true then Oper.wp Try.prog o a w K Q else E := by
  obtain ⟨i0, hi, hz0, hz1, hz2⟩ := info_parts Try.infoInt
  refine step_append_lies w hgd s x 50 ho base 3 i0 _ 1 _ Try.underlying50 hi hz0 hz1 hz2 rfl (by decide) v l.length (l.map (Value.int .i64)) hs hown ad 1 c [(Value.int .i64) y] hx (by simp) hnews ?_ (by omega) (by unfold maxLen; omega) (by omega) hbase _ rfl ?_
  · intro u hu
    simp only [List.mem_singleton] at hu
    subst hu
    rfl
  · intro g cap w' hown' hgrow _ _
    have e : l.map (Value.int .i64) ++ [(Value.int .i64) y] = (l ++ [y]).map (Value.int .i64) := by simp
    rw [e] at hown'
    exact h _ w' (by unfold RowN; rw [List.length_append]; exact hown') (Below.grown (Below.refl base w) hgrow hbase (fun k hk => (hown.lt k hk).1)) (Stay.grown hown hgrow)
theorem stepS {ops : Array Oper} {o : Oper} {a : Act} {K : Act → World → Prop} {Q : Exit → Act → World → Prop} {E : Prop} (w : World) (hgd : o.guard = none) (s x : Operand)
    (ho : o.op = .call { callee := .builtin .append, args := #[s, x], argTypes := #[54, 54] })
    (base : Nat) (v : Value) (l : List ByteArray) (hs : a.eval s = v) (hown : RowS base w v l)
    (ad : Addr) (c : Nat) (y : ByteArray) (hx : a.eval x = .slice (some ad) 1 c) (hnews : ∀ j u, [Value.string y][j]? = some u → w.cell? (ad.add j) = some u)
    (hb : l.length ≤ 100000) (hbase : base ≤ w.heap.size)
    (h : ∀ v' w', RowS base w' v' (l ++ [y]) → Below base w w' → Stay (fun _ => False) 9 w w' → K (a.put o.dst v') w') :
    if Region.wanted o (yielded ops a.tmps) = true then Oper.wp Try.prog o a w K Q else E := by
  obtain ⟨i0, hi, hz0, hz1, hz2⟩ := info_parts Try.infoStr
  refine step_append_lies w hgd s x 54 ho base 9 i0 _ 1 _ Try.underlying54 hi hz0 hz1 hz2 rfl (by decide) v l.length (l.map Value.string) hs hown ad 1 c [Value.string y] hx (by simp) hnews ?_ (by omega) (by unfold maxLen; omega) (by omega) hbase _ rfl ?_
  · intro u hu
    simp only [List.mem_singleton] at hu
    subst hu
    rfl
  · intro g cap w' hown' hgrow _ _
    have e : l.map Value.string ++ [Value.string y] = (l ++ [y]).map Value.string := by simp
    rw [e] at hown'
    exact h _ w' (by unfold RowS; rw [List.length_append]; exact hown') (Below.grown (Below.refl base w) hgrow hbase (fun k hk => (hown.lt k hk).1)) (Stay.grown hown hgrow)
set_option maxHeartbeats 2000000 in
theorem mayTable_any (t : Tab) (ao2 : Option Addr) (cap2 : Nat) (ao3 : Option Addr) (cap3 : Nat) (w : World) (hl2 : LiesK w w.heap.size ao2 t.cols) (hl3 : LiesI w w.heap.size ao3 t.idxs) :
    Calls Try.prog 26 #[.agg #[.int .i64 t.id, .string t.name, .slice ao2 t.cols.length cap2, .slice ao3 t.idxs.length cap3, .int .i64 t.next]] w fun e w' => e = .returned (.bool (tru (TabM t))) ∧ Below w.heap.size w w' := by
  have hbx := heap_new w (.cells #[.int .i64 t.id, .string t.name, .slice ao2 t.cols.length cap2, .slice ao3 t.idxs.length cap3, .int .i64 t.next] 40)
  have hw1 := within_any t.next 1 60000
  have hw2 := within_any (t.cols.length : Int) 1 8
  by_cases q1 : 1 ≤ t.next ∧ t.next ≤ 60000
  · rw [tru_yes q1] at hw1
    by_cases q2 : 1 ≤ (t.cols.length : Int) ∧ (t.cols.length : Int) ≤ 8
    · rw [tru_yes q2] at hw2
      by_cases q3 : 4 < (t.idxs.length : Int)
      · rw [tru_no (show ¬ TabM t from fun h => h.nidxs q3)]
        clear q1 q2
        go_enter Try.func26, Try.ntmps26
        go_wp2_with (first
          | (go_at_call 25; refine (hw1 _).mono ?_; rintro e w1 ⟨rfl, rfl⟩; clear hw1)
          | (go_at_call 25; refine (hw2 _).mono ?_; rintro e w1 ⟨rfl, rfl⟩))
        go_ret
        exact ⟨rfl, (Below.refl _ _).alloc (Nat.le_refl _) _⟩
      · have hq : (∀ c ∈ t.cols, ColM c) → (∀ f, t.cols[0]? = some f → KeyM f) → NamesOk (t.cols.map Colm.name) → IxsM t.idxs (t.cols.map Colm.id) → IdsM t → TabM t := fun h1 h2 h3 h4 h5 => ⟨q1, q2, q3, h1, h2, h3, h4, h5⟩
        have h8 : t.cols.length ≤ 8 := by omega
        have h81 : 1 ≤ t.cols.length := by omega
        have h4 : t.idxs.length ≤ 4 := by omega
        clear q2
        go_enter Try.func26, Try.ntmps26
        go_wp2_with (first
          | (go_at_call 25; refine (hw1 _).mono ?_; rintro e w1 ⟨rfl, rfl⟩; clear hw1)
          | (go_at_call 25; refine (hw2 _).mono ?_; rintro e w1 ⟨rfl, rfl⟩))
        clear hw2
        rename World => w
        go_loopw [3, 4, 27] (fun v u i wr => ∃ k : Nat, k ≤ t.cols.length ∧ i = .int .i64 (k : Int) ∧ RowN w.heap.size wr v ((t.cols.take k).map Colm.id) ∧ RowS w.heap.size wr u ((t.cols.take k).map Colm.name) ∧ Below w.heap.size w wr ∧ Hid (wr.heap[w.heap.size]? = some (.cells #[.int .i64 t.id, .string t.name, .slice ao2 t.cols.length cap2, .slice ao3 t.idxs.length cap3, .int .i64 t.next] 40 (0, 0))) ∧ Hid (∀ j (hj : j < t.cols.length), j < k → ColM t.cols[j])) (fun _ _ i _ => t.cols.length - (intOf i).toNat)
        case atStart => exact ⟨0, by omega, rfl, (RowN.nil _ _).alloc _, (RowS.nil _ _).alloc _, (Below.refl _ _).alloc (Nat.le_refl _) _, hbx, fun _ _ h => absurd h (Nat.not_lt_zero _)⟩
        case round =>
          clear hbx
          obtain ⟨k, hk, rfl, hrow, hrowS, hbel, HB, HK⟩ := hrel
          have hsz := hbel.size
          by_cases hkl : k < t.cols.length
          · have hlt := len_take Colm.id t.cols k
            have hltS := len_take Colm.name t.cols k
            have HKs : ColM t.cols[k] → Hid (∀ j (hj : j < t.cols.length), j < k + 1 → ColM t.cols[j]) := by
              intro hx j hj hjk
              by_cases h : j = k
              · subst h
                exact hx
              · exact HK.out j hj (by omega)
            have HKn : ¬ ColM t.cols[k] → Hid (¬ TabM t) := fun hx h => hx (h.cols _ (List.getElem_mem hkl))
            have hcat := map_snoc Colm.id t.cols k hkl
            have hcatS := map_snoc Colm.name t.cols k hkl
            have hend : ∀ (w7 : World) (v7 u7 : Value), RowN w.heap.size w7 v7 ((t.cols.take k).map Colm.id ++ [(t.cols[k]).id]) → RowS w.heap.size w7 u7 ((t.cols.take k).map Colm.name ++ [(t.cols[k]).name]) → RowN w.heap.size w7 v7 ((t.cols.take (k + 1)).map Colm.id) ∧ RowS w.heap.size w7 u7 ((t.cols.take (k + 1)).map Colm.name) := by
              intro w7 v7 u7 r1 r2
              rw [← hcat] at r1
              rw [← hcatS] at r2
              exact ⟨r1, r2⟩
            have HBk : ∀ (o : Obj) (w5 : World), Below (wr.alloc o).heap.size (wr.alloc o) w5 → w5.heap[w.heap.size]? = some (.cells #[.int .i64 t.id, .string t.name, .slice ao2 t.cols.length cap2, .slice ao3 t.idxs.length cap3, .int .i64 t.next] 40 (0, 0)) := fun o w5 h => below_box h (alloc_box _ HB.out)
            clear hcat hcatS HK HB hq
            obtain ⟨a, rfl, hblk, c0, c1, c2, c3, c4, c5, c6, c7, c8⟩ := (hl2.below ColAt.fast hbel) k t.cols[k] (List.getElem?_eq_getElem hkl)
            generalize (t.cols.take k).map Colm.id = L at *
            generalize (t.cols.take k).map Colm.name = M at *
            generalize t.cols[k] = y at *
            have hc := mayColumn_any y
            by_cases hx : ColM y
            · rw [tru_yes hx] at hc
              have HK2 := HKs hx
              clear HKs HKn hx
              go_wp2_with (first
                | (go_at_call 40; refine (hc _).mono ?_; rintro e w5 ⟨rfl, hb5⟩; have by5 := below_box hb5 (heap_new wr (.cells #[.int .i64 y.id, .string y.name, .int .i64 y.kind, .int .i64 y.state, .int .i64 y.null, .int .i64 y.d.k, .int .i64 y.d.n, .int .u64 (y.d.f : Int), .string y.d.s] 45)); have r5 := (hrow.alloc (.cells #[.int .i64 y.id, .string y.name, .int .i64 y.kind, .int .i64 y.state, .int .i64 y.null, .int .i64 y.d.k, .int .i64 y.d.n, .int .u64 (y.d.f : Int), .string y.d.s] 45)).below hb5; have s5 := (hrowS.alloc (.cells #[.int .i64 y.id, .string y.name, .int .i64 y.kind, .int .i64 y.state, .int .i64 y.null, .int .i64 y.d.k, .int .i64 y.d.n, .int .u64 (y.d.f : Int), .string y.d.s] 45)).below hb5; have bx5 := HBk _ _ hb5))
              have hbel5 : Below w.heap.size w w5 := hbel.trans (below_box0 hb5 |>.mono hsz)
              have hsz5 : w.heap.size ≤ w5.heap.size := hbel5.size
              clear hc HBk hrow hrowS hb5
              have e0 := box_cell by5 0 _ rfl
              have e1 := box_cell by5 1 _ rfl
              have e0B := box_cell (alloc_box (.cells #[.string y.name] 9) by5) 0 _ rfl
              have e1A := box_cell (alloc_box (.cells #[.int .i64 y.id] 3) by5) 1 _ rfl
              go_region_law (first
                | (refine stepN _ rfl (.tmp 34) (.tmp 37) rfl w.heap.size u3 L rfl (by first | exact World.ownsRow.drew (r5.alloc _) | exact World.ownsRow.drew ((r5.alloc _).alloc _)) _ _ y.id rfl (World.news_of_block (cs := #[.int .i64 y.id]) (by first | exact heap_drew (heap_newB _ _ _ (by simp)) | exact heap_drew (alloc_box _ (heap_newB _ _ _ (by simp))))) (by omega) (by simp; omega) ?_
                   intro v6 w6 rN6 hb6 st6
                   have s6 : RowS w.heap.size w6 u4 M := by first | exact RowS.stay (World.ownsRow.drew (s5.alloc _)) st6 | exact RowS.stay (World.ownsRow.drew ((s5.alloc _).alloc _)) st6
                   have by6 : w6.heap[wr.heap.size]? = some (.cells #[.int .i64 y.id, .string y.name, .int .i64 y.kind, .int .i64 y.state, .int .i64 y.null, .int .i64 y.d.k, .int .i64 y.d.n, .int .u64 (y.d.f : Int), .string y.d.s] 45 (0, 0)) := by first | exact stay_box st6 (heap_drew (alloc_box _ by5)) (by decide) id | exact stay_box st6 (heap_drew (alloc_box _ (alloc_box _ by5))) (by decide) id
                   have bx6 : w6.heap[w.heap.size]? = some (.cells #[.int .i64 t.id, .string t.name, .slice (some a) t.cols.length cap2, .slice ao3 t.idxs.length cap3, .int .i64 t.next] 40 (0, 0)) := by first | exact stay_box st6 (heap_drew (alloc_box _ bx5)) (by decide) id | exact stay_box st6 (heap_drew (alloc_box _ (alloc_box _ bx5))) (by decide) id
                   have hbel6 : Below w.heap.size w w6 := by first | exact ((hbel5.alloc hsz5 _).drew).trans hb6 | exact (((hbel5.alloc hsz5 _).alloc (by simp; omega) _).drew).trans hb6
                   have hsz6 : w.heap.size ≤ w6.heap.size := hbel6.size
                   have f1 := box_cell by6 1 _ rfl)
                | (refine stepS _ rfl (.tmp 39) (.tmp 42) rfl w.heap.size u4 M rfl (by first | exact s6 | exact s6.alloc _) _ _ y.name rfl (World.news_of_block (cs := #[.string y.name]) (by first | exact heap_newB _ _ _ (by simp) | exact stay_box st6 (heap_drew (heap_newB _ _ _ (by simp))) (by decide) id | exact stay_box st6 (heap_drew (alloc_box _ (heap_newB _ _ _ (by simp)))) (by decide) id)) (by omega) (by first | omega | (simp; omega)) ?_
                   intro v7 w7 rS7 hb7 st7
                   have r7 : RowN w.heap.size w7 v6 (L ++ [y.id]) := by first | exact rN6.stay st7 | exact (rN6.alloc _).stay st7
                   have bx7 : w7.heap[w.heap.size]? = some (.cells #[.int .i64 t.id, .string t.name, .slice (some a) t.cols.length cap2, .slice ao3 t.idxs.length cap3, .int .i64 t.next] 40 (0, 0)) := by first | exact stay_box st7 bx6 (by decide) id | exact stay_box st7 (alloc_box _ bx6) (by decide) id
                   have hbel7 : Below w.heap.size w w7 := by first | exact hbel6.trans hb7 | exact (hbel6.alloc hsz6 _).trans hb7))
              all_goals
                obtain ⟨g1, g2⟩ := hend _ _ _ r7 rS7
                go_wp2
                go_roundw
                case rel => exact ⟨k + 1, by omega, by go_num, g1, g2, hbel7, bx7, HK2⟩
                case measure => simp [intOf]; omega
            · have hno := HKn hx
              rw [tru_no hx] at hc
              clear HKs HKn hx
              go_wp2_with (first
                | (go_at_call 40; refine (hc _).mono ?_; rintro e w5 ⟨rfl, hb5⟩))
              go_ret
              rw [tru_no hno.out]
              exact ⟨rfl, hbel.trans (below_box0 hb5 |>.mono hsz)⟩
          · have hke : k = t.cols.length := by omega
            subst hke
            rw [List.take_length] at hrow hrowS
            obtain ⟨ao5, cap5, rfl, hcap5, hlS⟩ := hrowS.lies
            obtain ⟨ao6, cap6, rfl, hcap6, hlN⟩ := hrow.lies
            obtain ⟨f, hf⟩ : ∃ f, t.cols[0]? = some f := ⟨t.cols[0], List.getElem?_eq_getElem (by omega)⟩
            have hq2 : KeyM f → NamesOk (t.cols.map Colm.name) → IxsM t.idxs (t.cols.map Colm.id) → IdsM t → Hid (TabM t) := fun h1 h2 h3 h4 => hq (fun c hc => by
              obtain ⟨j, hj, rfl⟩ := List.getElem_of_mem hc
              exact HK.out j hj hj) (fun g hg => by rw [hf] at hg; cases hg; exact h1) h2 h3 h4
            have hq3 : ¬ (KeyM f ∧ NamesOk (t.cols.map Colm.name) ∧ IxsM t.idxs (t.cols.map Colm.id) ∧ IdsM t) → Hid (¬ TabM t) := fun h h' => h ⟨h'.key f hf, h'.names, h'.idxs, h'.ids⟩
            have hl2k := hl2.below ColAt.fast hbel
            obtain ⟨a, hao, hblk, c0, c1, c2, c3, c4, c5, c6, c7, c8⟩ := hl2k 0 f hf
            rw [Nat.zero_mul, addr_zero] at c0 c1 c2 c3 c4 c5 c6 c7 c8
            have hk1 := mayKey_any f wr
            have hlenS : (t.cols.map Colm.name).length ≤ 8 := by rw [List.length_map]; omega
            have hlenN : (t.cols.map Colm.id).length ≤ 8 := by rw [List.length_map]; omega
            have hn : ∀ w', Below wr.heap.size wr w' → _ := fun w' hb => mayNames_any ao5 cap5 _ (by omega) hcap5 w' (liesS_next hlS hb)
            have hix : ∀ w', Below wr.heap.size wr w' → _ := fun w' hb => mayIndexes_any ao3 cap3 t.idxs h4 ao6 cap6 _ (by omega) w' (liesI_next ((hl3.below IdxAt.fast hbel).mono hsz (fun _ _ h => idxAt_mono hsz h)) hb) (liesN_next hlN hb)
            have hid : ∀ w', Below wr.heap.size wr w' → _ := fun w' hb => mayIDs_any t ao2 cap2 ao3 cap3 h8 h4 q1 w' (liesK_next (hl2k.mono hsz (fun _ _ h => h)) hb) (liesI_next ((hl3.below IdxAt.fast hbel).mono hsz (fun _ _ h => idxAt_mono hsz h)) hb)
            subst hao
            have d2 := box_cell HB.out 2 _ rfl
            clear HK hq hlS hlN hrow hrowS hcap5 hcap6 hl2k hlenS hlenN
            generalize t.cols.map Colm.name = M at *
            generalize t.cols.map Colm.id = L at *
            have hz0 : (0 : Int) < (t.cols.length : Int) := by omega
            by_cases p1 : KeyM f
            · rw [tru_yes p1] at hk1
              by_cases p2 : NamesOk M
              · rw [tru_yes p2] at hn
                by_cases p3 : IxsM t.idxs L
                · rw [tru_yes p3] at hix
                  have he : Hid (tru (TabM t) = tru (IdsM t)) := by
                    by_cases p4 : IdsM t
                    · rw [tru_yes p4, tru_yes (hq2 p1 p2 p3 p4).out]; exact rfl
                    · rw [tru_no p4, tru_no (hq3 (fun h => p4 h.2.2.2)).out]; exact rfl
                  clear p1 p2 p3 hq2 hq3 q1
                  generalize tru (IdsM t) = cc at *
                  go_wp2_with (first
                    | (go_at_call 41; refine hk1.mono ?_; rintro e w5 ⟨rfl, hb5⟩)
                    | (go_at_call 27; refine (hn _ hb5).mono ?_; rintro e w6 ⟨rfl, rfl⟩; have d3 := box_cell (below_box hb5 HB.out) 3 _ rfl)
                    | (go_at_call 42; refine (hix _ hb5).mono ?_; rintro e w7 ⟨rfl, hb7⟩; have hb57 := below_next hb5 (Nat.le_refl _) hb7; have b7 := below_box hb57 HB.out; have x0 := box_cell b7 0 _ rfl; have x1 := box_cell b7 1 _ rfl; have x2 := box_cell b7 2 _ rfl; have x3 := box_cell b7 3 _ rfl; have x4 := box_cell b7 4 _ rfl)
                    | (go_at_call 43; refine (hid _ hb57).mono ?_; rintro e w8 ⟨rfl, hb8⟩))
                  go_ret
                  rw [he.out]
                  exact ⟨rfl, below_next hbel (Nat.le_refl _) (below_next hb57 (Nat.le_refl _) hb8)⟩
                · rw [tru_no p3] at hix
                  have hno := hq3 (fun h => p3 h.2.2.1)
                  clear p1 p2 p3 hq2 hq3 q1
                  go_wp2_with (first
                    | (go_at_call 41; refine hk1.mono ?_; rintro e w5 ⟨rfl, hb5⟩)
                    | (go_at_call 27; refine (hn _ hb5).mono ?_; rintro e w6 ⟨rfl, rfl⟩; have d3 := box_cell (below_box hb5 HB.out) 3 _ rfl)
                    | (go_at_call 42; refine (hix _ hb5).mono ?_; rintro e w7 ⟨rfl, hb7⟩; have hb57 := below_next hb5 (Nat.le_refl _) hb7))
                  go_ret
                  rw [tru_no hno.out]
                  exact ⟨rfl, below_next hbel (Nat.le_refl _) hb57⟩
              · rw [tru_no p2] at hn
                have hno := hq3 (fun h => p2 h.2.1)
                clear p1 p2 hq2 hq3 q1
                go_wp2_with (first
                  | (go_at_call 41; refine hk1.mono ?_; rintro e w5 ⟨rfl, hb5⟩)
                  | (go_at_call 27; refine (hn _ hb5).mono ?_; rintro e w6 ⟨rfl, rfl⟩))
                go_ret
                rw [tru_no hno.out]
                exact ⟨rfl, below_next hbel (Nat.le_refl _) hb5⟩
            · rw [tru_no p1] at hk1
              have hno := hq3 (fun h => p1 h.1)
              clear p1 hq2 hq3 q1
              go_wp2_with (first
                | (go_at_call 41; refine hk1.mono ?_; rintro e w5 ⟨rfl, hb5⟩))
              go_ret
              rw [tru_no hno.out]
              exact ⟨rfl, below_next hbel (Nat.le_refl _) hb5⟩
    · rw [tru_no q2] at hw2
      rw [tru_no (show ¬ TabM t from fun h => q2 h.ncols)]
      clear q1 q2
      go_enter Try.func26, Try.ntmps26
      go_wp2_with (first
        | (go_at_call 25; refine (hw1 _).mono ?_; rintro e w1 ⟨rfl, rfl⟩; clear hw1)
        | (go_at_call 25; refine (hw2 _).mono ?_; rintro e w1 ⟨rfl, rfl⟩))
      go_ret
      exact ⟨rfl, (Below.refl _ _).alloc (Nat.le_refl _) _⟩
  · rw [tru_no q1] at hw1
    rw [tru_no (show ¬ TabM t from fun h => q1 h.next)]
    clear q1
    go_enter Try.func26, Try.ntmps26
    go_wp2_with (first
      | (go_at_call 25; refine (hw1 _).mono ?_; rintro e w1 ⟨rfl, rfl⟩; clear hw1))
    go_ret
    exact ⟨rfl, (Below.refl _ _).alloc (Nat.le_refl _) _⟩
end Go.Proofs.Ytndppffcladalaa
