/-
  Joined:
  An act on a store and on the document's own.
  An act on a store and on the document's own.
-/
import Derived.Test.YtgldgedbinbigaaQPut
import Derived.Test.YtgldgedbinbigaaQTrm
import Derived.Test.YtgldgedbinbigaaQScn
import Derived.Test.YtgldgedbinbigaaSTrm
import Derived.Test.YtgldgedbinbigaaSActs
import Derived.Test.YtgldgedbinbigaaPCmp
import Derived.Deep.RegionHeldLaw
namespace Go.Proofs.Ytgldgedbinbigaa
open Go.RowKit Go.ChangeShapes Go.WideShapes Go.Joins Num
open scoped Classical
set_option linter.unusedVariables false
/-- What an act ends with: both still the same. -/
def Num.ActEnds (B gs gr : Nat) (st : Sto) (w : World) (e : Ending) (w' : World) : Prop := ∃ st', e = .returned (.bool true) ∧ HoldP B w' gs st' ∧ HoldR B w' gr st' ∧ st'.vs.length ≤ st.vs.length + 1 ∧ Below B w w'
theorem own_down {w : World} {B B' e sz n : Nat} {v : Value} {xs : List Value} (h : w.ownsRow B e sz v n xs) (hB : B' ≤ B) : w.ownsRow B' e sz v n xs := by
  refine ⟨h.1, ?_⟩
  rcases h.2 with h0 | ⟨g, cap, cur, hv, hb, r⟩
  · exact .inl h0
  · exact .inr ⟨g, cap, cur, hv, Nat.le_trans hB hb, r⟩
theorem Num.HoldR.down {B B' : Nat} {w : World} {g : Nat} {st : Sto} (h : HoldR B w g st) (hB : B' ≤ B) : HoldR B' w g st := by
  obtain ⟨ao, cap, h⟩ := h
  exact ⟨ao, cap, h.box, Nat.le_trans hB h.gB, own_down h.row hB, h.inv⟩
theorem ownPs_down {B B' : Nat} {w : World} {v : Value} {ps : Pages} (h : OwnPs B w v ps) (hB : B' ≤ B) : OwnPs B' w v ps := by
  obtain ⟨css, e1, e2, e3, e4⟩ := h
  refine ⟨css, e1, e2, own_down e3 hB, fun i cs x a b => ?_⟩
  obtain ⟨c, ec, hc⟩ := e4 i cs x a b
  exact ⟨c, ec, own_down hc hB⟩
theorem Num.HoldP.down {B B' : Nat} {w : World} {g : Nat} {st : Sto} (h : HoldP B w g st) (hB : B' ≤ B) : HoldP B' w g st := by
  obtain ⟨gm, D, blk, capf, ao, cap, ps, h⟩ := h
  exact ⟨gm, D, blk, capf, ao, cap, ps, ⟨h.box, Nat.le_trans hB h.gB, Nat.le_trans hB h.mB, h.map, ⟨h.rows.no, h.rows.at_, fun k hk => own_down (h.rows.row k hk) hB, h.rows.apart⟩, ownPs_down h.pages hB⟩, h.keys, h.size, h.inv, h.small⟩
theorem trimS_len (st : Sto) (t : Int) : (trimS st t).2.vs.length ≤ st.vs.length := trim_len st.vs t
theorem two_pairs8 (R : List Pr) (hR : R.length ≤ 1000) (W : World) (ao0 : Option Addr) (cap0 : Nat) (ao1 : Option Addr) (cap1 : Nat) (B0 : Nat) (h0 : W.ownsRow B0 69 2 (.slice ao0 R.length cap0) R.length (prCells R)) (h1 : LiesPr W W.heap.size ao1 R) :
    Calls Try.prog 19 #[.slice ao0 R.length cap0, .slice ao1 R.length cap1] W fun e w' => e = .returned (.bool true) ∧ Below W.heap.size W w' := by
  obtain ⟨a0, c0, e0, l0, _⟩ := own_lies h0
  cases e0
  exact pairs_same ao0 ao1 cap0 cap1 R (by omega) W l0 h1
set_option maxRecDepth 100000 in
set_option maxHeartbeats 4000000 in
theorem act_0 (B gs gr : Nat) (st : Sto) (t n : Int) (k v : ByteArray) (hks : k.size ≤ 500) (hvs : v.size ≤ 500) (hn : st.vs.length ≤ 700) (w : World) (hs : HoldP B w gs st) (hr : HoldR B w gr st) :
    Calls Try.prog 14 #[.pointer (some ⟨gs, 0, none⟩), .pointer (some ⟨gr, 0, none⟩), .agg #[.int .i64 0, .int .i64 t, .int .i64 n, .string k, .string v]] w fun e w' => ActEnds B gs gr st w e w' := by
  have hB : B ≤ w.heap.size := Nat.le_trans hs.lt.1 (Nat.le_of_lt hs.lt.2)
  obtain ⟨WA, hWA⟩ : ∃ WA, WA = (w.alloc (.cells #[.int .i64 0, .int .i64 t, .int .i64 n, .string k, .string v] 35)).drew := ⟨_, rfl⟩
  have kbA : WA.heap[w.heap.size]? = some (.cells #[.int .i64 0, .int .i64 t, .int .i64 n, .string k, .string v] 35) := by rw [hWA]; exact heap_new w (.cells #[.int .i64 0, .int .i64 t, .int .i64 n, .string k, .string v] 35)
  have hbA : Below w.heap.size w WA := by rw [hWA]; exact below_next ((Below.refl _ w).alloc (Nat.le_refl _) _) (Nat.le_refl _) below_drew
  have hsA := hs.below hbA
  have hrA := hr.below hbA
  have hb0 : Below B w WA := below_next (Below.refl B w) hB hbA
  have hq : ∀ W : World, W.heap[w.heap.size]? = some (.cells #[.int .i64 0, .int .i64 t, .int .i64 n, .string k, .string v] 35) → W.cell? ⟨w.heap.size, 1, none⟩ = some (.int .i64 t) ∧ W.cell? ⟨w.heap.size, 3, none⟩ = some (.string k) ∧ W.cell? ⟨w.heap.size, 4, none⟩ = some (.string v) := fun W h => ⟨box_cell h 1 _ rfl, box_cell h 3 _ rfl, box_cell h 4 _ rfl⟩
  clear hs hr hbA
  subst hWA
  have hput := sput_any B gs st t k v (key_small hks) (by omega) _ hsA
  have hrput := fun W h => rPut_any B gr st t k v (by omega) W h
  have hpl := put_len st ⟨k, t, v, false⟩
  generalize putS st ⟨k, t, v, false⟩ = out at *
  have hS0 := hq _ kbA
  go_enter Try.func14, Try.ntmps14
  go_wp2_with fail
  go_region_held_law (fun w' => w'.cell? ⟨w.heap.size, 1, none⟩ = some (.int .i64 t) ∧ w'.cell? ⟨w.heap.size, 3, none⟩ = some (.string k) ∧ w'.cell? ⟨w.heap.size, 4, none⟩ = some (.string v)) (first | exact hS3 | exact hS2 | exact hS0)
    (first
      | (go_at_call 15; refine hput.mono ?_; rintro e w2 ⟨rfl, hh2, hT2⟩
         have hr2 := hrA.turn hT2
         have kb2 := hT2.keep _ _ kbA ⟨by decide, by decide⟩
         have hS2 := hq _ kb2)
      | (go_at_call 25; refine (hrput w2 hr2).mono ?_; rintro e w3 ⟨rfl, hr3, hT3⟩
         have hS3 := hq _ (hT3.keep _ _ kb2 ⟨by decide, by decide⟩))
      | (go_at_call 13; refine (num_any _ _).mono ?_; rintro e wn ⟨rfl, hq9⟩; have hq' := hq9.symm; clear hq9; subst hq'))
  go_wp2
  go_ret
  exact ⟨out.2, rfl, hh2.turn hT3, hr3, hpl, (hb0.trans hT2.below).trans hT3.below⟩
set_option maxRecDepth 100000 in
set_option maxHeartbeats 4000000 in
theorem act_1 (B gs gr : Nat) (st : Sto) (t n : Int) (k v : ByteArray) (hks : k.size ≤ 500) (hvs : v.size ≤ 500) (hn : st.vs.length ≤ 700) (w : World) (hs : HoldP B w gs st) (hr : HoldR B w gr st) :
    Calls Try.prog 14 #[.pointer (some ⟨gs, 0, none⟩), .pointer (some ⟨gr, 0, none⟩), .agg #[.int .i64 1, .int .i64 t, .int .i64 n, .string k, .string v]] w fun e w' => ActEnds B gs gr st w e w' := by
  have hB : B ≤ w.heap.size := Nat.le_trans hs.lt.1 (Nat.le_of_lt hs.lt.2)
  obtain ⟨WA, hWA⟩ : ∃ WA, WA = (w.alloc (.cells #[.int .i64 1, .int .i64 t, .int .i64 n, .string k, .string v] 35)).drew := ⟨_, rfl⟩
  have kbA : WA.heap[w.heap.size]? = some (.cells #[.int .i64 1, .int .i64 t, .int .i64 n, .string k, .string v] 35) := by rw [hWA]; exact heap_new w (.cells #[.int .i64 1, .int .i64 t, .int .i64 n, .string k, .string v] 35)
  have hbA : Below w.heap.size w WA := by rw [hWA]; exact below_next ((Below.refl _ w).alloc (Nat.le_refl _) _) (Nat.le_refl _) below_drew
  have hsA := hs.below hbA
  have hrA := hr.below hbA
  have hb0 : Below B w WA := below_next (Below.refl B w) hB hbA
  have hq : ∀ W : World, W.heap[w.heap.size]? = some (.cells #[.int .i64 1, .int .i64 t, .int .i64 n, .string k, .string v] 35) → W.cell? ⟨w.heap.size, 1, none⟩ = some (.int .i64 t) ∧ W.cell? ⟨w.heap.size, 3, none⟩ = some (.string k) ∧ W.cell? ⟨w.heap.size, 4, none⟩ = some (.string v) := fun W h => ⟨box_cell h 1 _ rfl, box_cell h 3 _ rfl, box_cell h 4 _ rfl⟩
  clear hs hr hbA
  subst hWA
  have hput := sput_any B gs st t k v (key_small hks) (by omega) _ hsA
  have hrput := fun W h => rPut_any B gr st t k v (by omega) W h
  have hpl := put_len st ⟨k, t, v, false⟩
  generalize putS st ⟨k, t, v, false⟩ = out at *
  have hS0 := hq _ kbA
  go_enter Try.func14, Try.ntmps14
  go_wp2_with fail
  go_region_held_law (fun w' => w'.cell? ⟨w.heap.size, 1, none⟩ = some (.int .i64 t) ∧ w'.cell? ⟨w.heap.size, 3, none⟩ = some (.string k) ∧ w'.cell? ⟨w.heap.size, 4, none⟩ = some (.string v)) (first | exact hS3 | exact hS2 | exact hS0)
    (first
      | (go_at_call 15; refine hput.mono ?_; rintro e w2 ⟨rfl, hh2, hT2⟩
         have hr2 := hrA.turn hT2
         have kb2 := hT2.keep _ _ kbA ⟨by decide, by decide⟩
         have hS2 := hq _ kb2)
      | (go_at_call 25; refine (hrput w2 hr2).mono ?_; rintro e w3 ⟨rfl, hr3, hT3⟩
         have hS3 := hq _ (hT3.keep _ _ kb2 ⟨by decide, by decide⟩))
      | (go_at_call 13; refine (num_any _ _).mono ?_; rintro e wn ⟨rfl, hq9⟩; have hq' := hq9.symm; clear hq9; subst hq'))
  go_wp2
  go_ret
  exact ⟨out.2, rfl, hh2.turn hT3, hr3, hpl, (hb0.trans hT2.below).trans hT3.below⟩
set_option maxRecDepth 100000 in
set_option maxHeartbeats 4000000 in
theorem act_2 (B gs gr : Nat) (st : Sto) (t n : Int) (k v : ByteArray) (hks : k.size ≤ 500) (hvs : v.size ≤ 500) (hn : st.vs.length ≤ 700) (w : World) (hs : HoldP B w gs st) (hr : HoldR B w gr st) :
    Calls Try.prog 14 #[.pointer (some ⟨gs, 0, none⟩), .pointer (some ⟨gr, 0, none⟩), .agg #[.int .i64 2, .int .i64 t, .int .i64 n, .string k, .string v]] w fun e w' => ActEnds B gs gr st w e w' := by
  have hB : B ≤ w.heap.size := Nat.le_trans hs.lt.1 (Nat.le_of_lt hs.lt.2)
  obtain ⟨WA, hWA⟩ : ∃ WA, WA = (w.alloc (.cells #[.int .i64 2, .int .i64 t, .int .i64 n, .string k, .string v] 35)).drew := ⟨_, rfl⟩
  have kbA : WA.heap[w.heap.size]? = some (.cells #[.int .i64 2, .int .i64 t, .int .i64 n, .string k, .string v] 35) := by rw [hWA]; exact heap_new w (.cells #[.int .i64 2, .int .i64 t, .int .i64 n, .string k, .string v] 35)
  have hbA : Below w.heap.size w WA := by rw [hWA]; exact below_next ((Below.refl _ w).alloc (Nat.le_refl _) _) (Nat.le_refl _) below_drew
  have hsA := hs.below hbA
  have hrA := hr.below hbA
  have hb0 : Below B w WA := below_next (Below.refl B w) hB hbA
  have hq : ∀ W : World, W.heap[w.heap.size]? = some (.cells #[.int .i64 2, .int .i64 t, .int .i64 n, .string k, .string v] 35) → W.cell? ⟨w.heap.size, 1, none⟩ = some (.int .i64 t) ∧ W.cell? ⟨w.heap.size, 3, none⟩ = some (.string k) := fun W h => ⟨box_cell h 1 _ rfl, box_cell h 3 _ rfl⟩
  clear hs hr hbA
  subst hWA
  have hput := sdel_any B gs st t k (key_small hks) (by omega) _ hsA
  have hrput := fun W h => rDel_any B gr st t k (by omega) W h
  have hpl := put_len st ⟨k, t, ⟨#[]⟩, true⟩
  generalize putS st ⟨k, t, ⟨#[]⟩, true⟩ = out at *
  have hS0 := hq _ kbA
  go_enter Try.func14, Try.ntmps14
  go_wp2_with fail
  go_region_held_law (fun w' => w'.cell? ⟨w.heap.size, 1, none⟩ = some (.int .i64 t) ∧ w'.cell? ⟨w.heap.size, 3, none⟩ = some (.string k)) (first | exact hS3 | exact hS2 | exact hS0)
    (first
      | (go_at_call 18; refine hput.mono ?_; rintro e w2 ⟨rfl, hh2, hT2⟩
         have hr2 := hrA.turn hT2
         have kb2 := hT2.keep _ _ kbA ⟨by decide, by decide⟩
         have hS2 := hq _ kb2)
      | (go_at_call 26; refine (hrput w2 hr2).mono ?_; rintro e w3 ⟨rfl, hr3, hT3⟩
         have hS3 := hq _ (hT3.keep _ _ kb2 ⟨by decide, by decide⟩))
      | (go_at_call 13; refine (num_any _ _).mono ?_; rintro e wn ⟨rfl, hq9⟩; have hq' := hq9.symm; clear hq9; subst hq'))
  go_wp2
  go_ret
  exact ⟨out.2, rfl, hh2.turn hT3, hr3, hpl, (hb0.trans hT2.below).trans hT3.below⟩
set_option maxRecDepth 100000 in
set_option maxHeartbeats 4000000 in
theorem act_7 (B gs gr : Nat) (st : Sto) (t n : Int) (k v : ByteArray) (hks : k.size ≤ 500) (hvs : v.size ≤ 500) (hn : st.vs.length ≤ 700) (w : World) (hs : HoldP B w gs st) (hr : HoldR B w gr st) :
    Calls Try.prog 14 #[.pointer (some ⟨gs, 0, none⟩), .pointer (some ⟨gr, 0, none⟩), .agg #[.int .i64 7, .int .i64 t, .int .i64 n, .string k, .string v]] w fun e w' => ActEnds B gs gr st w e w' := by
  have hB : B ≤ w.heap.size := Nat.le_trans hs.lt.1 (Nat.le_of_lt hs.lt.2)
  obtain ⟨WA, hWA⟩ : ∃ WA, WA = (w.alloc (.cells #[.int .i64 7, .int .i64 t, .int .i64 n, .string k, .string v] 35)).drew := ⟨_, rfl⟩
  have kbA : WA.heap[w.heap.size]? = some (.cells #[.int .i64 7, .int .i64 t, .int .i64 n, .string k, .string v] 35) := by rw [hWA]; exact heap_new w (.cells #[.int .i64 7, .int .i64 t, .int .i64 n, .string k, .string v] 35)
  have hbA : Below w.heap.size w WA := by rw [hWA]; exact below_next ((Below.refl _ w).alloc (Nat.le_refl _) _) (Nat.le_refl _) below_drew
  have hsA := hs.below hbA
  have hrA := hr.below hbA
  have hb0 : Below B w WA := below_next (Below.refl B w) hB hbA
  have hq : ∀ W : World, W.heap[w.heap.size]? = some (.cells #[.int .i64 7, .int .i64 t, .int .i64 n, .string k, .string v] 35) → W.cell? ⟨w.heap.size, 1, none⟩ = some (.int .i64 t) := fun W h => box_cell h 1 _ rfl
  clear hs hr hbA
  subst hWA
  have htr := strim_any B gs st t (by omega) _ hsA
  have hrtr := fun W h => rtrim_any B gr st t (by omega) W h
  have hpl := trimS_len st t
  generalize trimS st t = out at *
  have hS0 := hq _ kbA
  go_enter Try.func14, Try.ntmps14
  go_wp2_with fail
  go_region_held_law (fun w' => w'.cell? ⟨w.heap.size, 1, none⟩ = some (.int .i64 t)) (first | exact hS3 | exact hS2 | exact hS0)
    (first
      | (go_at_call 21; refine htr.mono ?_; rintro e w2 ⟨rfl, hh2, hT2⟩
         have hr2 := hrA.turn hT2
         have kb2 := hT2.keep _ _ kbA ⟨by decide, by decide⟩
         have hS2 := hq _ kb2)
      | (go_at_call 31; refine (hrtr w2 hr2).mono ?_; rintro e w3 ⟨rfl, hr3, hT3⟩
         have hS3 := hq _ (hT3.keep _ _ kb2 ⟨by decide, by decide⟩)))
  go_wp2
  go_ret
  exact ⟨out.2, rfl, hh2.turn hT3, hr3, by omega, (hb0.trans hT2.below).trans hT3.below⟩
end Go.Proofs.Ytgldgedbinbigaa
namespace Go.Proofs.Ytgldgedbinbigaa
open Go.RowKit Go.ChangeShapes Go.WideShapes Go.Joins Num
open scoped Classical
set_option linter.unusedVariables false
set_option maxRecDepth 100000 in
set_option maxHeartbeats 4000000 in
theorem act_6 (B gs gr : Nat) (st : Sto) (t n : Int) (k v : ByteArray) (hks : k.size ≤ 500) (hvs : v.size ≤ 500) (hn : st.vs.length ≤ 700) (w : World) (hs : HoldP B w gs st) (hr : HoldR B w gr st) :
    Calls Try.prog 14 #[.pointer (some ⟨gs, 0, none⟩), .pointer (some ⟨gr, 0, none⟩), .agg #[.int .i64 6, .int .i64 t, .int .i64 n, .string k, .string v]] w fun e w' => ActEnds B gs gr st w e w' := by
  have hB : B ≤ w.heap.size := Nat.le_trans hs.lt.1 (Nat.le_of_lt hs.lt.2)
  obtain ⟨WA, hWA⟩ : ∃ WA, WA = (w.alloc (.cells #[.int .i64 6, .int .i64 t, .int .i64 n, .string k, .string v] 35)).drew := ⟨_, rfl⟩
  have kbA : WA.heap[w.heap.size]? = some (.cells #[.int .i64 6, .int .i64 t, .int .i64 n, .string k, .string v] 35) := by rw [hWA]; exact heap_new w (.cells #[.int .i64 6, .int .i64 t, .int .i64 n, .string k, .string v] 35)
  have hbA : Below w.heap.size w WA := by rw [hWA]; exact below_next ((Below.refl _ w).alloc (Nat.le_refl _) _) (Nat.le_refl _) below_drew
  have hsA := hs.below hbA
  have hrA := hr.below hbA
  have hb0 : Below B w WA := below_next (Below.refl B w) hB hbA
  have hq : ∀ W : World, W.heap[w.heap.size]? = some (.cells #[.int .i64 6, .int .i64 t, .int .i64 n, .string k, .string v] 35) → W.cell? ⟨w.heap.size, 1, none⟩ = some (.int .i64 t) ∧ W.cell? ⟨w.heap.size, 3, none⟩ = some (.string k) ∧ W.cell? ⟨w.heap.size, 4, none⟩ = some (.string v) := fun W h => ⟨box_cell h 1 _ rfl, box_cell h 3 _ rfl, box_cell h 4 _ rfl⟩
  clear hs hr hbA
  subst hWA
  have hsi := ssince_any B gs st k v t (by omega) _ hsA
  have hrsi := fun W h => rsince_any B gr st k v t (by omega) W h
  generalize sinceV st.vs k v t = out at *
  have hS0 := hq _ kbA
  go_enter Try.func14, Try.ntmps14
  go_wp2_with fail
  go_region_held_law (fun w' => w'.cell? ⟨w.heap.size, 1, none⟩ = some (.int .i64 t) ∧ w'.cell? ⟨w.heap.size, 3, none⟩ = some (.string k) ∧ w'.cell? ⟨w.heap.size, 4, none⟩ = some (.string v)) (first | exact hS2 | exact hS0)
    (first
      | (go_at_call 17; refine hsi.mono ?_; rintro e w2 ⟨rfl, hb2⟩
         have hr2 := hrA.below hb2
         have hS2 := hq _ (below_box hb2 kbA))
      | (go_at_call 30; refine (hrsi w2 hr2).mono ?_; rintro e wn ⟨rfl, hq9⟩; have hq' := hq9.symm; clear hq9; subst hq'))
  go_wp2
  go_ret
  exact ⟨st, rfl, hsA.below hb2, hr2, Nat.le_succ _, below_next hb0 hB hb2⟩
set_option maxRecDepth 100000 in
set_option maxHeartbeats 4000000 in
theorem act_4 (B gs gr : Nat) (st : Sto) (t n : Int) (k v : ByteArray) (hks : k.size ≤ 500) (hvs : v.size ≤ 500) (hn : st.vs.length ≤ 700) (w : World) (hs : HoldP B w gs st) (hr : HoldR B w gr st) :
    Calls Try.prog 14 #[.pointer (some ⟨gs, 0, none⟩), .pointer (some ⟨gr, 0, none⟩), .agg #[.int .i64 4, .int .i64 t, .int .i64 n, .string k, .string v]] w fun e w' => ActEnds B gs gr st w e w' := by
  have hB : B ≤ w.heap.size := Nat.le_trans hs.lt.1 (Nat.le_of_lt hs.lt.2)
  obtain ⟨WA, hWA⟩ : ∃ WA, WA = (w.alloc (.cells #[.int .i64 4, .int .i64 t, .int .i64 n, .string k, .string v] 35)).drew := ⟨_, rfl⟩
  have kbA : WA.heap[w.heap.size]? = some (.cells #[.int .i64 4, .int .i64 t, .int .i64 n, .string k, .string v] 35) := by rw [hWA]; exact heap_new w (.cells #[.int .i64 4, .int .i64 t, .int .i64 n, .string k, .string v] 35)
  have hbA : Below w.heap.size w WA := by rw [hWA]; exact below_next ((Below.refl _ w).alloc (Nat.le_refl _) _) (Nat.le_refl _) below_drew
  have hsA := hs.below hbA
  have hrA := hr.below hbA
  have hb0 : Below B w WA := below_next (Below.refl B w) hB hbA
  have hq : ∀ W : World, W.heap[w.heap.size]? = some (.cells #[.int .i64 4, .int .i64 t, .int .i64 n, .string k, .string v] 35) → W.cell? ⟨w.heap.size, 1, none⟩ = some (.int .i64 t) ∧ W.cell? ⟨w.heap.size, 2, none⟩ = some (.int .i64 n) ∧ W.cell? ⟨w.heap.size, 3, none⟩ = some (.string k) ∧ W.cell? ⟨w.heap.size, 4, none⟩ = some (.string v) := fun W h => ⟨box_cell h 1 _ rfl, box_cell h 2 _ rfl, box_cell h 3 _ rfl, box_cell h 4 _ rfl⟩
  clear hs hr hbA
  subst hWA
  obtain ⟨r, hrr⟩ := scan_exists hsA t k v
  have hrl := scan_few hrr
  have hsc := sscan_any B gs st t k v n (by omega) _ hsA r hrr
  have hrsc := fun W h => rscan_any B gr st t k v n (by omega) W h r hrr
  obtain ⟨X, hX⟩ : ∃ X, r.take n.toNat = X := ⟨_, rfl⟩
  have hXl : X.length ≤ 1000 := by rw [← hX, List.length_take]; omega
  rw [hX] at hsc
  simp only [hX] at hrsc
  clear hX hrl hrr
  have hS0 := hq _ kbA
  go_enter Try.func14, Try.ntmps14
  go_wp2_with fail
  go_region_held_law (fun w' => w'.cell? ⟨w.heap.size, 1, none⟩ = some (.int .i64 t) ∧ w'.cell? ⟨w.heap.size, 2, none⟩ = some (.int .i64 n) ∧ w'.cell? ⟨w.heap.size, 3, none⟩ = some (.string k) ∧ w'.cell? ⟨w.heap.size, 4, none⟩ = some (.string v)) (first | exact hS4 | exact hS3 | exact hS2 | exact hS0)
    (first
      | (go_at_call 16; refine hsc.mono ?_; rintro e w2 ⟨ao2, cap2, rfl, how2, hb2⟩
         have hr2 := hrA.below hb2
         have kb2 := below_box hb2 kbA
         have hS2 := hq _ kb2)
      | (go_at_call 28; refine (hrsc w2 hr2).mono ?_; rintro e w3 ⟨ao3, cap3, rfl, hl3, hb3⟩
         have kb3 := below_box hb3 kb2
         have hS3 := hq _ kb3
         have hpa := two_pairs8 X hXl w3 ao2 cap2 ao3 cap3 _ (own_below how2 hb3) hl3)
      | (go_at_call 19; refine hpa.mono ?_; rintro e w4 ⟨rfl, hb4⟩
         have hS4 := hq _ (below_box hb4 kb3)))
  go_wp2
  go_ret
  have b2 := below_next hb0 hB hb2
  have b3 := below_next b2 hB hb3
  exact ⟨st, rfl, ((hsA.below hb2).below hb3).below hb4, (hr2.below hb3).below hb4, Nat.le_succ _, below_next b3 hB hb4⟩
set_option maxRecDepth 100000 in
set_option maxHeartbeats 4000000 in
theorem act_5 (B gs gr : Nat) (st : Sto) (t n : Int) (k v : ByteArray) (hks : k.size ≤ 500) (hvs : v.size ≤ 500) (hn : st.vs.length ≤ 700) (w : World) (hs : HoldP B w gs st) (hr : HoldR B w gr st) :
    Calls Try.prog 14 #[.pointer (some ⟨gs, 0, none⟩), .pointer (some ⟨gr, 0, none⟩), .agg #[.int .i64 5, .int .i64 t, .int .i64 n, .string k, .string v]] w fun e w' => ActEnds B gs gr st w e w' := by
  have hB : B ≤ w.heap.size := Nat.le_trans hs.lt.1 (Nat.le_of_lt hs.lt.2)
  obtain ⟨WA, hWA⟩ : ∃ WA, WA = (w.alloc (.cells #[.int .i64 5, .int .i64 t, .int .i64 n, .string k, .string v] 35)).drew := ⟨_, rfl⟩
  have kbA : WA.heap[w.heap.size]? = some (.cells #[.int .i64 5, .int .i64 t, .int .i64 n, .string k, .string v] 35) := by rw [hWA]; exact heap_new w (.cells #[.int .i64 5, .int .i64 t, .int .i64 n, .string k, .string v] 35)
  have hbA : Below w.heap.size w WA := by rw [hWA]; exact below_next ((Below.refl _ w).alloc (Nat.le_refl _) _) (Nat.le_refl _) below_drew
  have hsA := hs.below hbA
  have hrA := hr.below hbA
  have hb0 : Below B w WA := below_next (Below.refl B w) hB hbA
  have hq : ∀ W : World, W.heap[w.heap.size]? = some (.cells #[.int .i64 5, .int .i64 t, .int .i64 n, .string k, .string v] 35) → W.cell? ⟨w.heap.size, 3, none⟩ = some (.string k) := fun W h => box_cell h 3 _ rfl
  clear hs hr hbA
  subst hWA
  have hla := slast_any B gs st k (key_small hks) (by omega) _ hsA
  have hrla := rlastT_any B gr st k (by omega) _ hrA
  have hsz := ssize_any B gs st _ hsA
  obtain ⟨ao, cap, hR⟩ := hrA
  have hc2 := (ref_cells hR).2.2
  have hrA := (⟨ao, cap, hR⟩ : HoldR B _ gr st)
  have hS00 := (hq _ kbA)
  generalize lastT st.vs k = out at *
  have hS0 := hq _ kbA
  go_enter Try.func14, Try.ntmps14
  go_wp2_with fail
  go_region_held_law (fun w' => w'.cell? ⟨w.heap.size, 3, none⟩ = some (.string k) ∧ w'.cell? ⟨gr, 2, none⟩ = some (.slice ao st.vs.length cap)) (first | exact ⟨hS0, hc2⟩)
    (first
      | (go_at_call 23; refine hla.mono ?_; rintro e wn ⟨rfl, hq9⟩; have hq' := hq9.symm; clear hq9; subst hq')
      | (go_at_call 29; refine hrla.mono ?_; rintro e wn ⟨rfl, hq9⟩; have hq' := hq9.symm; clear hq9; subst hq')
      | (go_at_call 20; refine hsz.mono ?_; rintro e wn ⟨rfl, hq9⟩; have hq' := hq9.symm; clear hq9; subst hq'))
  go_wp2
  go_ret
  exact ⟨st, rfl, hsA, hrA, Nat.le_succ _, hb0⟩
set_option maxRecDepth 100000 in
set_option maxHeartbeats 4000000 in
theorem act_3 (B gs gr : Nat) (st : Sto) (t n : Int) (k v : ByteArray) (hks : k.size ≤ 500) (hvs : v.size ≤ 500) (hn : st.vs.length ≤ 700) (w : World) (hs : HoldP B w gs st) (hr : HoldR B w gr st) :
    Calls Try.prog 14 #[.pointer (some ⟨gs, 0, none⟩), .pointer (some ⟨gr, 0, none⟩), .agg #[.int .i64 3, .int .i64 t, .int .i64 n, .string k, .string v]] w fun e w' => ActEnds B gs gr st w e w' := by
  have hB : B ≤ w.heap.size := Nat.le_trans hs.lt.1 (Nat.le_of_lt hs.lt.2)
  obtain ⟨WA, hWA⟩ : ∃ WA, WA = w.alloc (.cells #[.int .i64 3, .int .i64 t, .int .i64 n, .string k, .string v] 35) := ⟨_, rfl⟩
  have kbA : WA.heap[w.heap.size]? = some (.cells #[.int .i64 3, .int .i64 t, .int .i64 n, .string k, .string v] 35) := by rw [hWA]; exact heap_new w (.cells #[.int .i64 3, .int .i64 t, .int .i64 n, .string k, .string v] 35)
  have hbA : Below w.heap.size w WA := by rw [hWA]; exact (Below.refl _ w).alloc (Nat.le_refl _) _
  have hsA := hs.below hbA
  have hrA := hr.below hbA
  have hb0 : Below B w WA := below_next (Below.refl B w) hB hbA
  have hq : ∀ W : World, W.heap[w.heap.size]? = some (.cells #[.int .i64 3, .int .i64 t, .int .i64 n, .string k, .string v] 35) → W.cell? ⟨w.heap.size, 1, none⟩ = some (.int .i64 t) ∧ W.cell? ⟨w.heap.size, 3, none⟩ = some (.string k) := fun W h => ⟨box_cell h 1 _ rfl, box_cell h 3 _ rfl⟩
  have hge := sget_any B gs st t k (key_small hks) (by omega) _ hsA
  have hrge := fun W h => rget_any B gr st t k (by omega) W h
  generalize lookS (getV st.vs k t) = o1 at *
  generalize lookB (getV st.vs k t) = o2 at *
  clear hs hr hbA
  subst hWA
  go_enter Try.func14, Try.ntmps14
  go_wp2_with (first
    | (go_at_call 22; refine hge.mono ?_; rintro e w2 ⟨rfl, hb2⟩
       have hr2 := hrA.below hb2
       obtain ⟨u1, u3⟩ := hq _ (below_box hb2 kbA))
    | (go_at_call 27; refine (hrge w2 hr2).mono ?_; rintro e wn ⟨rfl, hq9⟩; have hq' := hq9.symm; clear hq9; subst hq'))
  go_ret
  exact ⟨st, rfl, hsA.below hb2, hr2, Nat.le_succ _, below_next hb0 hB hb2⟩
set_option maxRecDepth 100000 in
set_option maxHeartbeats 4000000 in
theorem act_8 (B gs gr : Nat) (st : Sto) (t n : Int) (k v : ByteArray) (hks : k.size ≤ 500) (hvs : v.size ≤ 500) (hn : st.vs.length ≤ 700) (w : World) (hs : HoldP B w gs st) (hr : HoldR B w gr st) (op : Int) (h0 : op ≠ 0) (h1 : op ≠ 1) (h2 : op ≠ 2) (h3 : op ≠ 3) (h4 : op ≠ 4) (h5 : op ≠ 5) (h6 : op ≠ 6) (h7 : op ≠ 7) :
    Calls Try.prog 14 #[.pointer (some ⟨gs, 0, none⟩), .pointer (some ⟨gr, 0, none⟩), .agg #[.int .i64 op, .int .i64 t, .int .i64 n, .string k, .string v]] w fun e w' => ActEnds B gs gr st w e w' := by
  have hB : B ≤ w.heap.size := Nat.le_trans hs.lt.1 (Nat.le_of_lt hs.lt.2)
  have d0 : decide (op = 0) = false := decide_eq_false h0
  have b0 : (op == 0) = false := by simpa using h0
  have d1 : decide (op = 1) = false := decide_eq_false h1
  have b1 : (op == 1) = false := by simpa using h1
  have d2 : decide (op = 2) = false := decide_eq_false h2
  have b2 : (op == 2) = false := by simpa using h2
  have d3 : decide (op = 3) = false := decide_eq_false h3
  have b3 : (op == 3) = false := by simpa using h3
  have d4 : decide (op = 4) = false := decide_eq_false h4
  have b4 : (op == 4) = false := by simpa using h4
  have d5 : decide (op = 5) = false := decide_eq_false h5
  have b5 : (op == 5) = false := by simpa using h5
  have d6 : decide (op = 6) = false := decide_eq_false h6
  have b6 : (op == 6) = false := by simpa using h6
  have d7 : decide (op = 7) = false := decide_eq_false h7
  have b7 : (op == 7) = false := by simpa using h7
  clear h0 h1 h2 h3 h4 h5 h6 h7
  have hbA : Below w.heap.size w (w.alloc (.cells #[.int .i64 op, .int .i64 t, .int .i64 n, .string k, .string v] 35)) := (Below.refl _ w).alloc (Nat.le_refl _) _
  have hsA := hs.below hbA
  have hrA := hr.below hbA
  have hb0 : Below B w (w.alloc (.cells #[.int .i64 op, .int .i64 t, .int .i64 n, .string k, .string v] 35)) := below_next (Below.refl B w) hB hbA
  clear hs hr hbA
  go_enter Try.func14, Try.ntmps14
  go_wp2
  go_ret
  exact ⟨st, rfl, hsA, hrA, Nat.le_succ _, hb0⟩
theorem act_any (B gs gr : Nat) (st : Sto) (x : A8) (hks : x.key.size ≤ 500) (hvs : x.val.size ≤ 500) (hn : st.vs.length ≤ 700) (w : World) (hs : HoldP B w gs st) (hr : HoldR B w gr st) :
    Calls Try.prog 14 #[.pointer (some ⟨gs, 0, none⟩), .pointer (some ⟨gr, 0, none⟩), .agg #[.int .i64 x.op, .int .i64 x.time, .int .i64 x.n, .string x.key, .string x.val]] w fun e w' => ActEnds B gs gr st w e w' := by
  obtain ⟨op, t, n, k, v⟩ := x
  by_cases h0 : op = 0
  · subst h0
    exact act_0 B gs gr st t n k v hks hvs hn w hs hr
  by_cases h1 : op = 1
  · subst h1
    exact act_1 B gs gr st t n k v hks hvs hn w hs hr
  by_cases h2 : op = 2
  · subst h2
    exact act_2 B gs gr st t n k v hks hvs hn w hs hr
  by_cases h3 : op = 3
  · subst h3
    exact act_3 B gs gr st t n k v hks hvs hn w hs hr
  by_cases h4 : op = 4
  · subst h4
    exact act_4 B gs gr st t n k v hks hvs hn w hs hr
  by_cases h5 : op = 5
  · subst h5
    exact act_5 B gs gr st t n k v hks hvs hn w hs hr
  by_cases h6 : op = 6
  · subst h6
    exact act_6 B gs gr st t n k v hks hvs hn w hs hr
  by_cases h7 : op = 7
  · subst h7
    exact act_7 B gs gr st t n k v hks hvs hn w hs hr
  exact act_8 B gs gr st t n k v hks hvs hn w hs hr op h0 h1 h2 h3 h4 h5 h6 h7
end Go.Proofs.Ytgldgedbinbigaa
