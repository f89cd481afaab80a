/-
  Proved: for every list of cells, every column and value and every list of columns the law RowTurns returns true: behind With its column has that value, all others what they had; With, and Without then, is Without (4.4); what was handed in reads behind the call as before. No condition.
-/
import Derived.Test.YtgaidhalkianfaaRows
import Derived.Test.YtgaidhalkianfaaRAwake
import Derived.Test.YtgaidhalkianfaaRFill
import Derived.Test.YtgaidhalkianfaaTSame
import Derived.Test.YtgaidhalkianfaaRWas
import Derived.WalkKit
import Derived.ProofKit
import Derived.OpenShut
import Derived.ShutString
import Derived.Lib.SmallJoins
namespace Go.Proofs.Ytgaidhalkianfaa.rowTurns
open Go.ChangeShapes Go.WideShapes Go.ChangeAt Go.RowKit Go.Joins Num
open Go.ChangeMaps (open_string shut_string)
set_option linter.unusedVariables false

theorem own : ownKnob Try.prog.godebug = none := by kernel_rfl
theorem cellsV : Try.prog.cellsOf 39 = 4 := by kernel_rfl

theorem vals_len (l : List Cel) (cols : List Colm) : (rowVals l cols).length = cols.length := by
  unfold rowVals
  rw [List.length_map]
theorem vals_at (l : List Cel) (cols : List Colm) (k : Nat) (hk : k < cols.length) : (rowVals l cols)[k]? = some (fillV l (cols[k]).id (cols[k]).d) := by
  unfold rowVals
  rw [List.getElem?_map, List.getElem?_eq_getElem hk]
  rfl
theorem with_ok {l : List Cel} {col : Int} {x : Val} (h : ∀ y ∈ l, y.ok) (hc : -9223372036854775808 ≤ col ∧ col ≤ 9223372036854775807) (hx : x.ok) : ∀ y ∈ withL l col x, y.ok := by
  intro y hy
  unfold withL insC at hy
  rcases List.mem_append.1 hy with hy | hy
  · exact without_ok h col y (List.mem_of_mem_take hy)
  · rcases List.mem_cons.1 hy with rfl | hy
    · exact ⟨hc, hx⟩
    · exact without_ok h col y (List.mem_of_mem_drop hy)
theorem low_box {w : World} {B : Nat} {x : Val} (h : VBox w B x) :
    (∀ y : Low w, y.wd.cell? ⟨B, 0, none⟩ = some (.int .i64 x.k)) ∧ (∀ y : Low w, y.wd.cell? ⟨B, 1, none⟩ = some (.int .i64 x.n)) ∧ (∀ y : Low w, y.wd.cell? ⟨B, 2, none⟩ = some (.int .u64 (x.f : Int))) ∧ (∀ y : Low w, y.wd.cell? ⟨B, 3, none⟩ = some (.string x.s)) :=
  ⟨fun y => (y.cell (p := ⟨B, 0, none⟩) h.1).trans h.2.1, fun y => (y.cell (p := ⟨B, 1, none⟩) h.1).trans h.2.2.1, fun y => (y.cell (p := ⟨B, 2, none⟩) h.1).trans h.2.2.2.1, fun y => (y.cell (p := ⟨B, 3, none⟩) h.1).trans h.2.2.2.2⟩

set_option maxRecDepth 100000 in
set_option maxHeartbeats 2000000 in
theorem core (ao0 : Option Addr) (cap0 : Nat) (l0 : List Cel) (h500 : l0.length ≤ 500) (hok0 : ∀ y ∈ l0, y.ok) (a1 : Int) (ha1 : -9223372036854775808 ≤ a1 ∧ a1 ≤ 9223372036854775807) (x : Val) (hx : x.ok) (hsz : ¬ 1000 < (x.s.size : Int)) (ao3 : Option Addr) (cap3 : Nat) (l3 : List Colm) (h100 : ¬ 100 < (l3.length : Int)) (hok3 : ∀ c ∈ l3, c.ok)
    (w : World) (hl0 : LiesC w w.heap.size ao0 l0) (hl3 : LiesK w w.heap.size ao3 l3)
    (hg0 : ∀ w, LiesC w w.heap.size ao0 l0 → Calls Try.prog 9 #[.slice ao0 l0.length cap0] w fun e w' => e = .returned (.bool false) ∧ w' = w) :
    Calls Try.prog 8 #[.slice ao0 l0.length cap0, .int .i64 a1, .agg #[.int .i64 x.k, .int .i64 x.n, .int .u64 (x.f : Int), .string x.s], .slice ao3 l3.length cap3] w fun e w' => e = .returned (.bool true) ∧ Below w.heap.size w w' := by
  have hlw : (withL l0 a1 x).length ≤ 501 := by have := withL_len l0 a1 x; have := without_len l0 a1; omega
  have hlo : (without l0 a1).length ≤ 1000000 := by have := without_len l0 a1; omega
  have hwok := with_ok (x := x) hok0 ha1 hx
  have hww := without_with l0 a1 x
  have h3 : l3.length ≤ 1000 := by omega
  have hB0 : Below w.heap.size w (w.alloc (.cells #[.int .i64 x.k, .int .i64 x.n, .int .u64 (x.f : Int), .string x.s] 39)) := (Below.refl _ w).alloc (Nat.le_refl _) _
  have hl1 := liesC_next hl0 hB0
  have hk1 := liesK_next hl3 hB0
  have hbx1 := VBox.new w x 39
  obtain ⟨_, d0, d1, d2, d3⟩ := id hbx1
  go_enter Try.func8, Try.ntmps8
  go_wp2_with (first
    | (go_at_call 9; refine (hg0 _ hl1).mono ?_; rintro e w1 ⟨rfl, he1⟩; subst he1)
    | (go_at_call 20; refine (with_any _ _ l0 h500 a1 x _ hl1).mono ?_; rintro e w1 ⟨g1, cap1, rfl, hA1, hb1⟩; have hl2 := liesC_next hl1 hb1; have hk2 := liesK_next hk1 hb1; have hbx2 := hbx1.next hb1)
    | (go_at_call 18; refine (fill_any _ _ l0 (by omega) hok0 _ _ l3 h3 hok3 _ hl2 hk2).mono ?_; rintro e w2 ⟨ao5, cap5, rfl, hV2, hb2⟩; have hl4 := liesC_next hl2 hb2; have hk4 := liesK_next hk2 hb2; have hbx4 := hbx2.next hb2; have hA4 := liesC_next hA1 hb2; clear hl2 hk2)
    | (go_at_call 18; refine (fill_any _ _ (withL l0 a1 x) (by omega) hwok _ _ l3 h3 hok3 _ hA4 hk4).mono ?_; rintro e w4 ⟨ao6, cap6, rfl, hU4, hb4⟩; have hl5 := liesC_next hl4 hb4; have hk5 := liesK_next hk4 hb4; have hbx5 := hbx4.next hb4; have hA5 := liesC_next hA4 hb4; have hV5 := lies_next hV2 hb4))
  have hb5 := below_next (below_next (below_next hB0 (Nat.le_refl _) hb1) (Nat.le_refl _) hb2) (Nat.le_refl _) hb4
  clear hbx1 hbx2 hbx4 hl1 hk1 hl4 hk4 hA1 hA4 hV2 d0 d1 d2 d3
  go_loopw [12] (fun i wr => ∃ k : Nat, k ≤ l3.length ∧ i = .int .i64 (k : Int) ∧ Below w4.heap.size w4 wr) (fun i _ => l3.length - (intOf i).toNat)
  case atStart => exact ⟨0, by omega, rfl, Below.refl _ _⟩
  case round =>
    obtain ⟨k, hk, rfl, hbel⟩ := hrel
    by_cases hkl : k < l3.length
    · have hatB := vals_at (withL l0 a1 x) l3 k hkl
      have hatA := vals_at l0 l3 k hkl
      obtain ⟨ak, rfl, hblk, kc, _⟩ := (liesK_next hk5 hbel) k l3[k] (List.getElem?_eq_getElem hkl)
      have kcl : ∀ y : Low wr, y.wd.cell? (ak.add (k * 9)) = some (.int .i64 (l3[k]).id) := fun y => (y.cell (by rw [Addr.block_add]; exact hblk)).trans kc
      obtain ⟨q0, q1, q2, q3⟩ := low_box (hbx5.next hbel)
      by_cases hid : (l3[k]).id = a1
      · have eB : fillV (withL l0 a1 x) (l3[k]).id (l3[k]).d = x := by rw [hid]; exact fill_same l0 a1 x _
        rw [eB] at hatB
        rw [hid] at kcl
        obtain ⟨ab, rfl, hbb, u0, u1, u2, u3⟩ := (lies_next hU4 hbel) k x hatB
        obtain ⟨r0, r1, r2, r3⟩ := low_cells hbb u0 u1 u2 u3
        clear kc u0 u1 u2 u3 hatA hatB eB hid hblk hbb hl5 hk5 hbx5 hA5 hV5 hU4 hg0 hl0 hl3 hwok hww
        go_wp2_with fail
        refine wp_region_low (by kernel_rfl) (by kernel_rfl) fun hsome => ?_
        repeat (go_big_quiet_step (fail))
        refine wpQuiet_nil ?_
        rintro _ ⟨s9, rfl⟩
        have hs9 := s9.low
        go_wp2
        go_roundw
        case rel => exact ⟨k + 1, by omega, by go_num, below_next hbel (Nat.le_refl _) hs9⟩
        case measure => simp [intOf]; omega
      · have eB := fill_other l0 a1 x (l3[k]).d (l3[k]).id hid
        rw [eB] at hatB
        generalize fillV l0 (l3[k]).id (l3[k]).d = z at *
        obtain ⟨ab, rfl, hbb, u0, u1, u2, u3⟩ := (lies_next hU4 hbel) k z hatB
        obtain ⟨aa, rfl, hba, v0, v1, v2, v3⟩ := (lies_next hV5 hbel) k z hatA
        obtain ⟨r0, r1, r2, r3⟩ := low_cells hbb u0 u1 u2 u3
        obtain ⟨t0, t1, t2, t3⟩ := low_cells hba v0 v1 v2 v3
        generalize (l3[k]).id = I at *
        have hidd : decide (I = a1) = false := decide_eq_false hid
        have hide : (I == a1) = false := by simpa using hid
        have hidn : (I != a1) = true := by simpa using hid
        clear kc u0 u1 u2 u3 v0 v1 v2 v3 hatA hatB eB hblk hbb hba hl5 hk5 hbx5 hA5 hV5 hU4 hg0 hl0 hl3 hwok hww
        go_wp2_with fail
        refine wp_region_low (by kernel_rfl) (by kernel_rfl) fun hsome => ?_
        repeat (go_big_quiet_step (fail))
        refine wpQuiet_nil ?_
        rintro _ ⟨s9, rfl⟩
        have hs9 := s9.low
        go_wp2
        go_roundw
        case rel => exact ⟨k + 1, by omega, by go_num, below_next hbel (Nat.le_refl _) hs9⟩
        case measure => simp [intOf]; omega
    · have hke : k = l3.length := by omega
      subst hke
      have hA6 := liesC_next hA5 hbel
      have hl6 := liesC_next hl5 hbel
      have hwA : ∀ W, LiesC W W.heap.size (some ⟨g1, 0, none⟩) (withL l0 a1 x) → Calls Try.prog 21 #[.slice (some ⟨g1, 0, none⟩) (withL l0 a1 x).length cap1, .int .i64 a1] W fun e w' => e = .returned (.slice (some ⟨W.heap.size, 0, none⟩) (without l0 a1).length ((withL l0 a1 x).length + 1)) ∧ w'.ownsRow W.heap.size 41 5 (.slice (some ⟨W.heap.size, 0, none⟩) (without l0 a1).length ((withL l0 a1 x).length + 1)) (without l0 a1).length (celCells (without l0 a1)) ∧ Below W.heap.size W w' := fun W hW => by
        have h := without_any (some ⟨g1, 0, none⟩) cap1 (withL l0 a1 x) (by omega) a1 W hW
        rw [hww] at h
        exact h
      clear hl5 hk5 hbx5 hA5 hV5 hU4 hwok hww
      go_wp2_with (first
        | (go_at_call 21; refine (hwA _ hA6).mono ?_; rintro e w6 ⟨rfl, hown6, hb6⟩; have hR6 := lies_own rfl hown6; have hl7 := liesC_next hl6 hb6; clear hA6)
        | (go_at_call 21; refine (without_any _ _ l0 (by omega) a1 _ hl7).mono ?_; rintro e w7 ⟨rfl, hown7, hb7⟩; have hR7 := lies_own rfl hown7; have hR67 := liesC_next hR6 hb7)
        | (go_at_call 16; refine (sameC_any _ _ _ _ (without l0 a1) hlo _ hR67 hR7).mono ?_; rintro e w8 ⟨rfl, hb8⟩)
        | (go_at_call 10; refine (awake_any _).mono ?_; rintro e w9 ⟨rfl, hb9⟩))
      go_ret
      exact ⟨rfl, below_next (below_next (below_next (below_next (below_next hb5 (Nat.le_refl _) hbel) (Nat.le_refl _) hb6) (Nat.le_refl _) hb7) (Nat.le_refl _) hb8) (Nat.le_refl _) hb9⟩

theorem walk (ao0 : Option Addr) (cap0 : Nat) (l0 : List Cel) (hlen0 : l0.length ≤ maxLen) (hok0 : ∀ x ∈ l0, x.ok) (a1 : Int) (ha1 : -9223372036854775808 ≤ a1 ∧ a1 ≤ 9223372036854775807) (k2 n2 : Int) (hn2 : -9223372036854775808 ≤ n2 ∧ n2 ≤ 9223372036854775807) (f2 : Nat) (hf2 : f2 < 18446744073709551616) (s2 : ByteArray) (ao3 : Option Addr) (cap3 : Nat) (l3 : List Colm) (hlen3 : l3.length ≤ maxLen) (hok3 : ∀ x ∈ l3, x.ok) (w : World) (hl0 : LiesC w w.heap.size ao0 l0) (hl3 : LiesK w w.heap.size ao3 l3) :
    Calls Try.prog 8 #[.slice ao0 l0.length cap0, .int .i64 a1, .agg #[.int .i64 k2, .int .i64 n2, .int .u64 (f2 : Int), .string s2], .slice ao3 l3.length cap3] w fun e w' => e = .returned (.bool true) ∧ Below w.heap.size w w' := by
  have hg0 := long_any ao0 cap0 l0 hlen0
  have hB0 : Below w.heap.size w (w.alloc (.cells #[.int .i64 k2, .int .i64 n2, .int .u64 (f2 : Int), .string s2] 39)) := (Below.refl _ w).alloc (Nat.le_refl _) _
  have hl1 := liesC_next hl0 hB0
  cases hlg : longC l0 with
  | true =>
    rw [hlg] at hg0
    go_enter Try.func8, Try.ntmps8
    go_wp2_with (first
      | (go_at_call 9; refine (hg0 _ hl1).mono ?_; rintro e w1 ⟨rfl, he1⟩; subst he1)
      | (go_at_call 10; refine (awake_any _).mono ?_; rintro e w3 ⟨rfl, hb3⟩))
    go_ret
    exact ⟨rfl, below_next hB0 (Nat.le_refl _) hb3⟩
  | false =>
    rw [hlg] at hg0
    by_cases hsz : 1000 < (s2.size : Int)
    · go_enter Try.func8, Try.ntmps8
      go_wp2_with (first
        | (go_at_call 9; refine (hg0 _ hl1).mono ?_; rintro e w1 ⟨rfl, he1⟩; subst he1)
        | (go_at_call 10; refine (awake_any _).mono ?_; rintro e w3 ⟨rfl, hb3⟩))
      go_ret
      exact ⟨rfl, below_next hB0 (Nat.le_refl _) hb3⟩
    · by_cases hc : 100 < (l3.length : Int)
      · go_enter Try.func8, Try.ntmps8
        go_wp2_with (first
          | (go_at_call 9; refine (hg0 _ hl1).mono ?_; rintro e w1 ⟨rfl, he1⟩; subst he1)
          | (go_at_call 10; refine (awake_any _).mono ?_; rintro e w3 ⟨rfl, hb3⟩))
        go_ret
        exact ⟨rfl, below_next hB0 (Nat.le_refl _) hb3⟩
      · exact core ao0 cap0 l0 (longC_len hlg) hok0 a1 ha1 ⟨k2, n2, f2, s2⟩ ⟨hn2, hf2⟩ hsz ao3 cap3 l3 hc hok3 w hl0 hl3 hg0

set_option maxRecDepth 100000 in
theorem lifted (os : Os) (started : os.Started) (H : Type) (enc : TypeId × Value → H) :
    ReturnsInHanded {} Try.checked os 8 .any (Rows.rowTurnsSpec.pre6 enc Try.prog Try.f8 Rows.rowTurnsRow.domain false) (Rows.rowTurnsSpec.post enc Try.prog Try.f8 false true false false) := by
  refine returnsInHanded_of_change (C := Try.checked) own started (by kernel_rfl) Try.func8
    (ChangeSpec.witness6 (enc := enc) (C := Try.checked) false ⟨#[], #[.slice none 0 0, .int .i64 0, .agg #[.int .i64 0, .int .i64 0, .int .u64 0, .string ByteArray.empty], .slice none 0 0], []⟩ 8 (by kernel_rfl) (by kernel_rfl) (by kernel_rfl) (by kernel_rfl)) ?_
  intro W base args ds gs before hval0 hW hcnd _
  have hval : ∀ (j : Nat) t v, Try.f8.params[j]? = some t → args[j]? = some v → Value.okWide Try.prog W .any base t v := hval0
  have hW' := hW
  have hWk := hW
  obtain ⟨p, q, hA0, hV, rfl, hfz, hnd⟩ := hW
  have hA : DataW.TrodAll enc Try.prog W 0 (fun _ => true) true Try.f8.params.toList args.toList ds p := hA0
  rw [Try.params8] at hA hval
  obtain ⟨v0, vs0, d0, ds0, p0, q0, hargs, rfl, rfl, h0, r0⟩ := trodAll_cons hA
  obtain ⟨v1, vs1, d1, ds1, p1, q1, rfl, rfl, rfl, h1, r1⟩ := trodAll_cons r0
  obtain ⟨v2, vs2, d2, ds2, p2, q2, rfl, rfl, rfl, h2, r2⟩ := trodAll_cons r1
  obtain ⟨v3, vs3, d3, ds3, p3, q3, rfl, rfl, rfl, h3, r3⟩ := trodAll_cons r2
  obtain ⟨rfl, rfl, rfl⟩ := trodAll_nil r3
  obtain rfl : args = #[v0, v1, v2, v3] := by cases args; simp_all
  obtain ⟨rfl, rfl⟩ := trodVars_none hV
  have hk0 := h0
  obtain ⟨ao0, cap0, l0, rfl, hlen0, hok0, hlies0⟩ := open_cels (hval 0 22 v0 rfl rfl) h0
  have hlt0 : ∀ x ∈ p0, x.block < W.heap.size := fun x hx => by simpa using hWk.lt x (by simp [hx])
  obtain ⟨a1, rfl, rfl, rfl, wa1⟩ := open_int Try.underlying3 (hval 1 3 v1 rfl rfl) h1
  have ba1 := bounds_i64 wa1
  obtain ⟨ca2, cb2, cc2, cd2, ya2, yb2, yc2, yd2, m2, rfl, rfl, rfl, hya2, hyb2, hyc2, hyd2⟩ := open_agg4 Try.underlying39 (by kernel_rfl) cellsV (hval 2 39 v2 rfl rfl) h2
  obtain ⟨k2, ea2, rfl, wk2⟩ := DataW.trod_int Try.underlying3 hya2
  obtain ⟨n2, eb2, rfl, wn2⟩ := DataW.trod_int Try.underlying2 hyb2
  obtain ⟨g2, ec2, rfl, wf2⟩ := DataW.trod_int Try.underlying37 hyc2
  obtain ⟨s2, ed2, rfl, ws2⟩ := DataW.trod_string Try.underlying9 hyd2
  simp at ea2 eb2 ec2 ed2
  subst ea2 eb2 ec2 ed2
  have bn2 := bounds_i64 wn2
  have bf2 := bounds_u64 wf2
  obtain ⟨f2, rfl⟩ := Int.eq_ofNat_of_zero_le bf2.1
  have hk3 := h3
  obtain ⟨ao3, cap3, l3, rfl, hlen3, hok3, hlies3⟩ := open_cols (hval 3 42 v3 rfl rfl) h3
  have hlt3 : ∀ x ∈ p3, x.block < W.heap.size := fun x hx => by simpa using hWk.lt x (by simp [hx])
  clear hA0 hval0
  simp only [List.append_nil] at hW'
  have rd2 : ∀ (W' : World) (sp : Nat → Bool), DataW.Trod enc Try.prog W' 0 sp true 39 (.agg #[.int .i64 k2, .int .i64 n2, .int .u64 (f2 : Int), .string s2]) (.agg [.lit (.int .i64 k2), .lit (.int .i64 n2), .lit (.int .u64 (f2 : Int)), .lit (.string s2.data.toList)]) [] := fun W' sp =>
    shut_agg4 (y0 := (.lit (.int .i64 k2), [])) (y1 := (.lit (.int .i64 n2), [])) (y2 := (.lit (.int .u64 (f2 : Int)), [])) (y3 := (.lit (.string s2.data.toList), [])) Try.underlying39 (by kernel_rfl) cellsV
      ⟨1, by simp [DataW.trod, Try.underlying3, wk2]⟩ ⟨1, by simp [DataW.trod, Try.underlying2, wn2]⟩ ⟨1, by simp [DataW.trod, Try.underlying37, wf2]⟩ ⟨1, by simp [DataW.trod, Try.underlying9, ws2]⟩
  refine (walk ao0 cap0 l0 hlen0 hok0 a1 (by omega) k2 n2 (by omega) f2 (by omega) s2 ao3 cap3 l3 hlen3 hok3 W hlies0 hlies3).mono fun e W' ⟨he, hg⟩ => ?_
  subst he
  exact ⟨_, rfl, _, _, _, [], _, [], hW', trodAll_cons_mk (shut_bool Try.underlying4 _) trodAll_mk0, (trodAll_cons_mk (Below.trod Try.laidOut (by kernel_rfl) (of_decide_eq_true (by kernel_rfl)) hk0 hg hlt0) (trodAll_cons_mk (shut_int Try.underlying3 wa1) (trodAll_cons_mk (rd2 _ _) (trodAll_cons_mk (Below.trod Try.laidOut (by kernel_rfl) (of_decide_eq_true (by kernel_rfl)) hk3 hg hlt3) trodAll_mk0)))), rfl, hg.frame _, fun h => by cases h⟩

theorem over : Rows.rowTurnsRow.holds Try.pinned (OpenSpec.ofChange Rows.rowTurnsSpec) :=
  OpenClaim.holds_of_wide 8 Try.f8 rfl rfl rfl rfl rfl rfl rfl ⟨rfl, rfl, rfl, rfl, rfl⟩ rfl rfl rfl rfl rfl (by kernel_rfl) Try.func8 (by kernel_rfl)
    (of_decide_eq_true (by kernel_rfl)) (by unfold Func.isWrapper; first | (rw [if_pos (by decide +kernel)]; kernel_rfl) | (rw [if_neg (by decide +kernel)]; exact ⟨rfl, rfl⟩))
    (fun os started H enc _ => lifted os started H enc)

theorem proved : Rows.RowTurnsSaid :=
  over
#print axioms proved
end Go.Proofs.Ytgaidhalkianfaa.rowTurns
