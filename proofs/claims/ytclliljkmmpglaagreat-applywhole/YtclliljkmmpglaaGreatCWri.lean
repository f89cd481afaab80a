/-
  Contracts: the document's own writer: numbers, texts, bools, values (6.3).
-/
import Derived.Test.YtclliljkmmpglaaGreatBase
import Derived.Test.YtclliljkmmpglaaGreatCRef
import Derived.Test.YtclliljkmmpglaaGreatFl
import Derived.Deep.RegionLaw
import Derived.OneCell
import Derived.Laws.Rows
namespace Go.Proofs.YtclliljkmmpglaaGreat
open Go.RowKit Num
set_option linter.unusedVariables false
set_option maxRecDepth 100000

/-- What a writer has written by now, and what else stays. -/
structure Num.Wri (p B : Nat) (w0 w : World) (L : List UInt8) : Prop where
  box : ∃ v, w.heap[p]? = some (.cells #[v] 138 (0, 0)) ∧ w.ownsRow B 5 1 v L.length (cellsOf L)
  low : Below B w0 w
  stay : Stay (fun k => k = p) 5 w0 w
  base : B ≤ w0.heap.size
  at_ : B ≤ p
theorem Num.Wri.le {p B : Nat} {w0 w : World} {L : List UInt8} (h : Wri p B w0 w L) : B ≤ w.heap.size := Nat.le_trans h.base h.stay.size
theorem Num.Wri.as {p B : Nat} {w0 w : World} {L L' : List UInt8} (h : Wri p B w0 w L) (e : L = L') : Wri p B w0 w L' := e ▸ h
theorem Num.Wri.here {p B : Nat} {w0 w : World} {L : List UInt8} (h : Wri p B w0 w L) : Wri p B w w L := ⟨h.box, Below.refl _ _, Stay.refl _ _ _, h.le, h.at_⟩
theorem Num.Wri.chain {p B : Nat} {w0 w w' : World} {L L' : List UInt8} (h : Wri p B w0 w L) (k : Wri p B w w' L') : Wri p B w0 w' L' := ⟨k.box, h.low.trans k.low, h.stay.trans k.stay, h.base, h.at_⟩
theorem Num.Wri.below {p B : Nat} {w0 w w' : World} {L : List UInt8} (h : Wri p B w0 w L) (hb : Below w.heap.size w w') : Wri p B w0 w' L := by
  obtain ⟨v, h1, h2⟩ := h.box
  exact ⟨⟨v, below_box hb h1, own_below h2 hb⟩, below_next h.low h.base hb, h.stay.trans (Stay.below hb), h.base, h.at_⟩
theorem Num.Wri.alloc {p B : Nat} {w0 w : World} {L : List UInt8} (h : Wri p B w0 w L) (o : Obj) : Wri p B w0 (w.alloc o) L := h.below ((Below.refl _ _).alloc (Nat.le_refl _) o)
theorem Num.Wri.keep {p B : Nat} {w0 w : World} {L : List UInt8} (h : Wri p B w0 w L) {b : Nat} {cs : Array Value} {t : TypeId} {fr : Nat × Nat} (hb : w0.heap[b]? = some (.cells cs t fr)) (ht : t ≠ 5) (hp : b ≠ p) : w.heap[b]? = some (.cells cs t fr) :=
  stay_box h.stay hb ht hp
/-- Behind the store. -/
theorem wri_set {p B : Nat} {w0 w6 : World} {v v6 : Value} {L : List UInt8} (hb : w6.heap[p]? = some (.cells #[v] 138 (0, 0))) (hown : w6.ownsRow B 5 1 v6 L.length (cellsOf L)) (hlow : Below B w0 w6) (hst : Stay (fun k => k = p) 5 w0 w6) (hB : B ≤ w0.heap.size) (hp : B ≤ p) :
    Wri p B w0 (w6.setCell ⟨p, 0, none⟩ v6) L := by
  have hne : v6.ownBlock ≠ some p := by
    rcases hown.2 with ⟨rfl, _⟩ | ⟨g, cap, cur, rfl, _, hg, _⟩
    · simp [Value.ownBlock]
    · intro e
      obtain rfl : g = p := by simpa [Value.ownBlock] using e
      rw [hb] at hg
      simp at hg
  refine ⟨⟨v6, ?_, ownsRow_setCell_other hown hne v6⟩, hlow.setCell hp v6, hst.trans ⟨?_, fun k hk hX _ => Below.heap_setCell _ _ _ _ hX⟩, hB, hp⟩
  · rw [heap_setCell_same w6 p 0 _ _ _ hb]
    rfl
  · show w6.heap.size ≤ (w6.heap.modify _ _).size
    simp
theorem Num.Wri.drew {p B : Nat} {w0 w : World} {L : List UInt8} (h : Wri p B w0 w L) : Wri p B w0 w.drew L := ⟨h.box, h.low.drew, h.stay.drew, h.base, h.at_⟩
theorem stepStr {ops : Array Oper} {o : Oper} {a : Act} {K : Act → World → Prop} {Q : Exit → Act → World → Prop} {E : Prop} (w : World) (hgd : o.guard = none) (s x : Operand)
    (ho : o.op = .call { callee := .builtin .append, args := #[s, x], argTypes := #[78, 9] })
    (base : Nat) (v : Value) (l : List UInt8) (hs : a.eval s = v) (hown : w.ownsRow base 5 1 v l.length (cellsOf l))
    (t : List UInt8) (hx : a.eval x = .string (str t)) (hb : l.length + t.length ≤ 1000000) (hbase : base ≤ w.heap.size)
    (h : ∀ v' w', w'.ownsRow base 5 1 v' (l ++ t).length (cellsOf (l ++ t)) → Below base w w' → Stay (fun _ => False) 5 w w' → K (a.put o.dst v') w') :
    if Region.wanted o (yielded ops a.tmps) = true then Oper.wp Tryz.prog o a w K Q else E := by
  have hw : Region.wanted o (yielded ops a.tmps) = true := by simp [Region.wanted, hgd]
  rw [if_pos hw]
  obtain ⟨i0, hi, hz0, hz1, hz2⟩ := info_parts Tryz.infoU8
  have hsz : (str t).size = t.length := rfl
  obtain ⟨v', w', hr, h2, h3, _⟩ := Go.Lib.run_append_own_string (P := Tryz.prog) w base 78 9 o.type 5 i0 Tryz.underlying78 Tryz.underlying9 hi hz0 hz1 hz2 v l.length (cellsOf l) hown (str t) (by rw [hsz]; unfold maxLen; omega) (by rw [hsz]; omega) hbase
  unfold Oper.wp execOp
  simp only [ho, resolve, invoke, builtin, Sem.run_bind, Sem.run_pure, Result.andThen_ok, List.map_toArray, List.map_cons, List.map_nil, hs, hx, hr]
  refine h v' w' ?_ (Below.grown (Below.refl base w) h3 hbase (fun k hk => (hown.lt k hk).1)) (Stay.grown hown h3)
  have e : cellsOf l ++ Go.Lib.strCells (str t) = cellsOf (l ++ t) := by simp [cellsOf, Go.Lib.strCells, str]
  rw [← e, List.length_append, ← hsz]
  exact h2
theorem refEight_any (n : Int) (w : World) :
    Calls Tryz.prog 96 #[.int .i64 n] w fun e w' => e = .returned (.string (str (num8 n))) ∧ Below w.heap.size w w' := by
  obtain ⟨u, hu⟩ : ∃ u : Nat, IntKind.u64.wrap n = (u : Int) := ⟨(IntKind.u64.wrap n).toNat, by rw [IntKind.wrap_u64]; omega⟩
  have e8 : num8 n = be8 u := by
    unfold num8
    congr 1
    rw [IntKind.wrap_u64] at hu
    omega
  rw [e8]
  have h := eight_any u
  go_enter Tryz.func96, Tryz.ntmps96
  go_wp2_with (go_at_call 131; refine (h _).mono ?_; rintro e w1 ⟨rfl, hb1⟩)
  go_ret
  exact ⟨rfl, hb1⟩
set_option maxHeartbeats 2000000 in
theorem wNum_any {p B : Nat} {w0 w : World} {L : List UInt8} (hw : Wri p B w0 w L) (n : Int) (hlen : L.length + 8 ≤ 1000000) :
    Calls Tryz.prog 58 #[.pointer (some ⟨p, 0, none⟩), .int .i64 n] w fun e w' => e = .returned (.tuple #[]) ∧ Wri p B w0 w' (L ++ num8 n) := by
  obtain ⟨v, hbox, hown⟩ := hw.box
  have h8 := refEight_any n
  have hl8 := num8_len n
  have c0 := box_cell hbox 0 _ rfl
  generalize num8 n = N at *
  go_enter Tryz.func58, Tryz.ntmps58
  go_wp2_with fail
  go_region_law (first
    | (refine stepStr _ rfl (.tmp 8) (.tmp 10) rfl B v L rfl own5 N rfl (by omega) hB5 ?_
       intro v6 w6 own6 hb6 st6
       obtain ⟨ao6, n6, cap6, rfl⟩ := own_shape own6
       have b6 := stay_box st6 b5 (by decide) id
       have f6 := box_open b6 0
       have c6 := box_cell b6 0 _ rfl)
    | (go_simp
       go_wp2_with (go_at_call 96; refine (h8 _).mono ?_; rintro e w5 ⟨rfl, hb5⟩; have b5 := below_box hb5 (heap_drewC hbox); have own5 := own_below (World.ownsRow.drew hown) hb5; have c5 := box_cell b5 0 _ rfl; have hB5 : B ≤ w5.heap.size := Nat.le_trans hw.le hb5.size)))
  all_goals
    go_end0
    exact ⟨rfl, wri_set b6 own6 ((below_next hw.low.drew hw.base hb5).trans hb6) (hw.stay.drew.trans ((Stay.below hb5).trans st6.wide)) hw.base hw.at_⟩
theorem wText_any {p B : Nat} {w0 w : World} {L : List UInt8} (hw : Wri p B w0 w L) (s : ByteArray) (hlen : L.length + (8 + s.size) ≤ 1000000) :
    Calls Tryz.prog 59 #[.pointer (some ⟨p, 0, none⟩), .string s] w fun e w' => e = .returned (.tuple #[]) ∧ Wri p B w0 w' (L ++ txtB s) := by
  have h := wNum_any hw (s.size : Int) (by omega)
  go_enter Tryz.func59, Tryz.ntmps59
  go_wp2_with (first
    | (go_at_call 58; refine h.mono ?_; rintro e w1 ⟨rfl, h1⟩; obtain ⟨v, hbox, hown⟩ := h1.box; have c0 := box_cell hbox 0 _ rfl)
    | (at_builtin; refine wpList_appsS _ rfl _ _ rfl B _ _ _ rfl hown s rfl (by rw [List.length_append, num8_len]; omega) h1.le ?_; intro v6 w6 own6 hb6 st6; obtain ⟨ao6, n6, cap6, rfl⟩ := own_shape own6; have b6 := stay_box st6 hbox (by decide) id; have f6 := box_open b6 0; have c6 := box_cell b6 0 _ rfl))
  go_end0
  refine ⟨rfl, wri_set b6 ?_ (h1.low.trans hb6) (h1.stay.trans st6.wide) h1.base h1.at_⟩
  unfold txtB
  rw [← List.append_assoc, List.length_append]
  exact own6
theorem wBool_any {p B : Nat} {w0 w : World} {L : List UInt8} (hw : Wri p B w0 w L) (b : Bool) (hlen : L.length + 8 ≤ 1000000) :
    Calls Tryz.prog 60 #[.pointer (some ⟨p, 0, none⟩), .bool b] w fun e w' => e = .returned (.tuple #[]) ∧ Wri p B w0 w' (L ++ num8 (if b then 1 else 0)) := by
  cases b with
  | true =>
    have h := wNum_any hw 1 hlen
    go_enter Tryz.func60, Tryz.ntmps60
    go_wp2_with (go_at_call 58; refine h.mono ?_; rintro e w1 ⟨rfl, h1⟩)
    go_end0
    exact ⟨rfl, h1⟩
  | false =>
    have h := wNum_any hw 0 hlen
    go_enter Tryz.func60, Tryz.ntmps60
    go_wp2_with (go_at_call 58; refine h.mono ?_; rintro e w1 ⟨rfl, h1⟩)
    go_end0
    exact ⟨rfl, h1⟩
theorem num8_low (f : Nat) (hf : f < 18446744073709551616) (x : Int) (hx : IntKind.i64.wrap (f : Int) = x) : num8 x = be8 f := by
  unfold num8
  congr 1
  rw [← hx, IntKind.wrap_i64]
  omega
set_option maxHeartbeats 4000000 in
theorem wVal_any {p B : Nat} {w0 w : World} {L : List UInt8} (hw0 : Wri p B w0 w L) (x : Val) (hok : x.ok) (hlen : L.length + (valB x).length ≤ 1000000) :
    Calls Tryz.prog 61 #[.pointer (some ⟨p, 0, none⟩), .agg #[.int .i64 x.k, .int .i64 x.n, .int .u64 (x.f : Int), .string x.s]] w fun e w' => e = .returned (.tuple #[]) ∧ Wri p B w0 w' (L ++ valB x) := by
  have hlen2 := hlen
  unfold valB at hlen2
  simp only [List.length_append, num8_len, be8_len, txt_len] at hlen2
  have hbx := heap_new w (.cells #[.int .i64 x.k, .int .i64 x.n, .int .u64 (x.f : Int), .string x.s] 119)
  have hqp : w.heap.size ≠ p := by
    obtain ⟨v, hb, _⟩ := hw0.box
    have := (Array.getElem?_eq_some_iff.1 hb).1
    omega
  have hw := (hw0.alloc (.cells #[.int .i64 x.k, .int .i64 x.n, .int .u64 (x.f : Int), .string x.s] 119)).here
  have h := wNum_any hw x.k (by omega)
  have h8 := refEight_any x.n
  obtain ⟨z, hz⟩ : ∃ z, IntKind.i64.wrap (x.f : Int) = z := ⟨_, rfl⟩
  have h9 := refEight_any z
  have hz8 := num8_low x.f hok.2 z hz
  have hl8 := num8_len x.n
  have hl9 := num8_len z
  rw [hz8] at h9 hl9
  go_enter Tryz.func61, Tryz.ntmps61
  go_wp2_with (first
    | (go_at_call 58; refine h.mono ?_; rintro e w1 ⟨rfl, h1⟩))
  clear h
  obtain ⟨v, hbox, hown⟩ := h1.box
  have c0 := box_cell hbox 0 _ rfl
  have by1 := h1.keep hbx (by decide) hqp
  have d1 := box_cell by1 1 _ rfl
  have hlN : (L ++ num8 x.k).length = L.length + 8 := by rw [List.length_append, num8_len]
  go_region_law (first
    | (refine stepStr _ rfl (.tmp 12) (.tmp 15) rfl B v (L ++ num8 x.k) rfl own5 (num8 x.n) rfl (by omega) hB5 ?_
       intro v6 w6 own6 hb6 st6
       obtain ⟨ao6, n6, cap6, rfl⟩ := own_shape own6
       have b6 := stay_box st6 b5 (by decide) id
       have f6 := box_open b6 0
       have c6 := box_cell b6 0 _ rfl)
    | (go_simp
       go_wp2_with (go_at_call 96; refine (h8 _).mono ?_; rintro e w5 ⟨rfl, hb5⟩; have b5 := below_box hb5 (heap_drewC hbox); have own5 := own_below (World.ownsRow.drew hown) hb5; have c5 := box_cell b5 0 _ rfl; have hB5 : B ≤ w5.heap.size := Nat.le_trans h1.le hb5.size)))
  all_goals
    have h2 := wri_set b6 own6 ((below_next h1.low.drew h1.base hb5).trans hb6) (h1.stay.drew.trans ((Stay.below hb5).trans st6.wide)) h1.base h1.at_
    clear hbox hown c0 by1 d1 b5 own5 c5 hB5 own6 hb6 st6 b6 f6 c6 hb5 h1
    generalize w6.setCell _ _ = W2 at *
    obtain ⟨v, hbox, hown⟩ := h2.box
    have c0 := box_cell hbox 0 _ rfl
    have by1 := h2.keep hbx (by decide) hqp
    have d1 := box_cell by1 2 _ rfl
    have hlM : (L ++ num8 x.k ++ num8 x.n).length = L.length + 16 := by rw [List.length_append, List.length_append, num8_len, num8_len]
    go_wp2_with fail
    go_region_law (first
      | (refine stepStr _ rfl (.tmp 23) (.tmp 27) rfl B v (L ++ num8 x.k ++ num8 x.n) rfl own5 (be8 x.f) rfl (by omega) hB5 ?_
         intro v6 w6 own6 hb6 st6
         obtain ⟨ao6, n6, cap6, rfl⟩ := own_shape own6
         have b6 := stay_box st6 b5 (by decide) id
         have f6 := box_open b6 0
         have c6 := box_cell b6 0 _ rfl)
      | (go_simp
         go_wp2_with (go_at_call 96; refine (h9 _).mono ?_; rintro e w5 ⟨rfl, hb5⟩; have b5 := below_box hb5 (heap_drewC hbox); have own5 := own_below (World.ownsRow.drew hown) hb5; have c5 := box_cell b5 0 _ rfl; have hB5 : B ≤ w5.heap.size := Nat.le_trans h2.le hb5.size)))
    all_goals
      have h3 := wri_set b6 own6 ((below_next h2.low.drew h2.base hb5).trans hb6) (h2.stay.drew.trans ((Stay.below hb5).trans st6.wide)) h2.base h2.at_
      clear hbox hown c0 by1 d1 b5 own5 c5 hB5 own6 hb6 st6 b6 f6 c6 hb5 h2
      generalize w6.setCell _ _ = W3 at *
      have by1 := h3.keep hbx (by decide) hqp
      have d1 := box_cell by1 3 _ rfl
      have h4 := wText_any h3 x.s (by simp only [List.length_append, num8_len, be8_len]; omega)
      go_wp2_with (first
        | (go_at_call 59; refine h4.mono ?_; rintro e w7 ⟨rfl, h7⟩))
      go_end0
      refine ⟨rfl, (hw0.alloc _).chain (h7.as ?_)⟩
      unfold valB
      simp only [List.append_assoc]
end Go.Proofs.YtclliljkmmpglaaGreat
