/-
  Contracts: the methods of a group that there is not.
-/
import Derived.Test.YthnbaijkhhbelaaGreatGpA
import Derived.Test.YthnbaijkhhbelaaGreatGpD
namespace Go.Proofs.YthnbaijkhhbelaaGreat
open Go.RowKit Num
open scoped Classical
set_option linter.unusedVariables false
set_option maxRecDepth 100000

theorem rep0_lies (w : World) (B : Nat) : LiesR w B ⟨none, 0, none, 0, none, 0, none, 0, none, 0⟩ rep0 := ⟨fun i x hx => by simp [rep0] at hx, fun i x hx => by simp [rep0] at hx, fun i x hx => by simp [rep0] at hx, fun i x hx => by simp [rep0] at hx, fun i x hx => by simp [rep0] at hx⟩
theorem nil_replica (i : Int) (w : World) : Calls Tryz.prog 24 #[.pointer none, .int .i64 i] w fun e w' => e = .returned (.tuple #[repV rep0 ⟨none, 0, none, 0, none, 0, none, 0, none, 0⟩, .int .i64 20]) ∧ Below w.heap.size w w' := by
  have hm := fun W => member_nil i W
  go_enter Tryz.func24, Tryz.ntmps24
  go_wp2_with (first
    | (go_at_call 51; refine (hm _).mono ?_; rintro e wn ⟨rfl, rfl⟩))
  refine bodyPost_ret (v := .tuple #[repV rep0 ⟨none, 0, none, 0, none, 0, none, 0, none, 0⟩, .int .i64 20]) (by simp [results, Tryz.results24, go_sem, rep0]) rfl ⟨rfl, (Below.refl _ w).alloc (Nat.le_refl _) _⟩
theorem nil_running (i : Int) (w : World) : Calls Tryz.prog 46 #[.pointer none, .int .i64 i] w fun e w' => e = .returned (.tuple #[.pointer none, .int .i64 20]) ∧ w' = w := running_of none i w (member_nil i w)
theorem nil_propose (i t : Int) (d : ByteArray) (w : World) : Calls Tryz.prog 21 #[.pointer none, .int .i64 i, .int .i64 t, .string d] w fun e w' => e = .returned (.tuple #[.int .i64 0, .int .i64 20]) ∧ w' = w := gpro_no d (by omega) (nil_running i w)
theorem nil_runs (i : Int) (w : World) : Calls Tryz.prog 26 #[.pointer none, .int .i64 i] w fun e w' => e = .returned (.bool false) ∧ w' = w := by
  have hm := fun W => nil_running i W
  go_enter Tryz.func26, Tryz.ntmps26
  go_wp2_with (first
    | (go_at_call 46; refine (hm _).mono ?_; rintro e wn ⟨rfl, rfl⟩))
  go_ret
  exact ⟨rfl, rfl⟩
theorem nil_under (w : World) : Calls Tryz.prog 22 #[.pointer none] w fun e w' => e = .returned (.int .i64 0) ∧ w' = w := by
  go_enter Tryz.func22, Tryz.ntmps22
  go_wp2
  go_ret
  exact ⟨rfl, rfl⟩
theorem nil_suspect (i : Int) (w : World) : Calls Tryz.prog 27 #[.pointer none, .int .i64 i] w fun e w' => e = .returned (.int .i64 20) ∧ w' = w := by
  have hm := fun W => nil_running i W
  go_enter Tryz.func27, Tryz.ntmps27
  go_wp2_with (first
    | (go_at_call 46; refine (hm _).mono ?_; rintro e wn ⟨rfl, rfl⟩))
  go_ret
  exact ⟨rfl, rfl⟩
theorem nil_crash (i : Int) (w : World) : Calls Tryz.prog 28 #[.pointer none, .int .i64 i] w fun e w' => e = .returned (.int .i64 20) ∧ w' = w := by
  have hm := fun W => nil_running i W
  go_enter Tryz.func28, Tryz.ntmps28
  go_wp2_with (first
    | (go_at_call 46; refine (hm _).mono ?_; rintro e wn ⟨rfl, rfl⟩))
  go_ret
  exact ⟨rfl, rfl⟩
theorem nil_start (i : Int) (w : World) : Calls Tryz.prog 29 #[.pointer none, .int .i64 i] w fun e w' => e = .returned (.int .i64 20) ∧ w' = w := by
  have hm := fun W => member_nil i W
  go_enter Tryz.func29, Tryz.ntmps29
  go_wp2_with (first
    | (go_at_call 51; refine (hm _).mono ?_; rintro e wn ⟨rfl, rfl⟩))
  go_ret
  exact ⟨rfl, rfl⟩
theorem nil_take (k : Int) (w : World) : Calls Tryz.prog 49 #[.pointer none, .int .i64 k] w fun e w' => e = .returned (.tuple #[.agg #[.int .i64 0, .int .i64 0, .int .i64 0, .int .i64 0, .int .i64 0, .int .i64 0, .int .i64 0, .slice none 0 0], .int .i64 20]) ∧ Below w.heap.size w w' := by
  go_enter Tryz.func49, Tryz.ntmps49
  go_wp2
  refine bodyPost_ret (v := .tuple #[.agg #[.int .i64 0, .int .i64 0, .int .i64 0, .int .i64 0, .int .i64 0, .int .i64 0, .int .i64 0, .slice none 0 0], .int .i64 20]) (by simp [results, Tryz.results49, go_sem]) rfl ⟨rfl, (Below.refl _ w).alloc (Nat.le_refl _) _⟩
theorem nil_deliver (k : Int) (w : World) : Calls Tryz.prog 23 #[.pointer none, .int .i64 k] w fun e w' => e = .returned (.int .i64 20) ∧ Below w.heap.size w w' := by
  have hm := fun W => nil_take k W
  go_enter Tryz.func23, Tryz.ntmps23
  go_wp2_with (first
    | (go_at_call 49; refine (hm _).mono ?_; rintro e w1 ⟨rfl, hb1⟩))
  go_ret
  exact ⟨rfl, hb1.alloc hb1.size _⟩
theorem unseen_any (w : World) : Calls Tryz.prog 55 #[.func (.func 49) #[] #[]] w fun e w' => e = .returned (.func (.func 82) #[] #[.pointer (some ⟨w.heap.size, 0, none⟩)]) ∧ w' = w.alloc (.cells #[.func (.func 49) #[] #[]] 99) := by
  go_enter Tryz.func55, Tryz.ntmps55
  go_wp2
  go_ret
  exact ⟨rfl, rfl⟩
theorem unseen1_of (gv : Option Addr) (k E : Int) (Bn : Nat) (w : World) (hc : w.cell? ⟨Bn, 0, none⟩ = some (.func (.func 49) #[] #[])) (R : World → Prop)
    (ht : Calls Tryz.prog 49 #[.pointer gv, .int .i64 k] w fun e w' => (∃ m0 m1 m2 m3 m4 m5 m6 lo ln lc, e = .returned (.tuple #[.agg #[.int .i64 m0, .int .i64 m1, .int .i64 m2, .int .i64 m3, .int .i64 m4, .int .i64 m5, .int .i64 m6, .slice lo ln lc], .int .i64 E])) ∧ R w')
    (hR : ∀ W o, R W → R (W.alloc o)) :
    Calls Tryz.prog 82 #[.pointer gv, .int .i64 k, .pointer (some ⟨Bn, 0, none⟩)] w fun e w' => e = .returned (.int .i64 E) ∧ R w' := by
  go_enter Tryz.func82, Tryz.ntmps82
  go_wp2_with (first
    | (go_at_call 49; refine ht.mono ?_; rintro e w1 ⟨⟨m0, m1, m2, m3, m4, m5, m6, lo, ln, lc, rfl⟩, hb1⟩))
  go_ret
  exact ⟨rfl, hR _ _ hb1⟩
/-- Drop, by what is taken. -/
theorem drop_of (gv : Option Addr) (k E : Int) (w : World) (R : World → Prop)
    (ht : Calls Tryz.prog 49 #[.pointer gv, .int .i64 k] (w.alloc (.cells #[.func (.func 49) #[] #[]] 99)) fun e w' => (∃ m0 m1 m2 m3 m4 m5 m6 lo ln lc, e = .returned (.tuple #[.agg #[.int .i64 m0, .int .i64 m1, .int .i64 m2, .int .i64 m3, .int .i64 m4, .int .i64 m5, .int .i64 m6, .slice lo ln lc], .int .i64 E])) ∧ R w')
    (hR : ∀ W o, R W → R (W.alloc o)) :
    Calls Tryz.prog 30 #[.pointer gv, .int .i64 k] w fun e w' => e = .returned (.int .i64 E) ∧ R w' := by
  have hu := fun W => unseen_any W
  have h1 := unseen1_of gv k E w.heap.size _ (box_cell (heap_new w _) 0 _ rfl) R ht hR
  go_enter Tryz.func30, Tryz.ntmps30
  go_wp2_with (first
    | (go_at_call 55; refine (hu _).mono ?_; rintro e w1 ⟨rfl, rfl⟩)
    | (go_at_call 82; refine h1.mono ?_; rintro e w1 ⟨rfl, hb1⟩))
  go_ret
  exact ⟨rfl, hb1⟩
theorem nil_drop (k : Int) (w : World) : Calls Tryz.prog 30 #[.pointer none, .int .i64 k] w fun e w' => e = .returned (.int .i64 20) ∧ Below w.heap.size w w' := by
  refine drop_of none k 20 w (Below w.heap.size w) ((nil_take k _).mono ?_) (fun W o h => h.alloc h.size o)
  rintro e w' ⟨rfl, hb⟩
  exact ⟨⟨_, _, _, _, _, _, _, _, _, _, rfl⟩, ((Below.refl _ w).alloc (Nat.le_refl _) _).trans (hb.mono (by simp))⟩
theorem nil_double (k : Int) (w : World) : Calls Tryz.prog 31 #[.pointer none, .int .i64 k] w fun e w' => e = .returned (.int .i64 20) ∧ w' = w := by
  go_enter Tryz.func31, Tryz.ntmps31
  go_wp2
  go_ret
  exact ⟨rfl, rfl⟩
theorem nil_copy (w : World) : Calls Tryz.prog 20 #[.pointer none] w fun e w' => e = .returned (.pointer none) ∧ w' = w := by
  go_enter Tryz.func20, Tryz.ntmps20
  go_wp2
  go_ret
  exact ⟨rfl, rfl⟩
end Go.Proofs.YthnbaijkhhbelaaGreat
