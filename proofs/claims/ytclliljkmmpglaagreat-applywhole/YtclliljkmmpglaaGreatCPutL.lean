/-
  Contracts: values, ranges, writes, rows and commands, as bytes behind bytes of the call's own (13.2): of the program.
-/
import Derived.Test.YtclliljkmmpglaaGreatBase
import Derived.Test.YtclliljkmmpglaaGreatCPutN
import Derived.Deep.RegionHeldLaw
namespace Go.Proofs.YtclliljkmmpglaaGreat
open Go.RowKit Num
set_option linter.unusedVariables false
set_option maxRecDepth 100000

theorem Num.Cur.here {B : Nat} {w0 w : World} {v : Value} {L : List UInt8} (h : Cur B w0 w v L) : Cur B w w v L := ⟨h.own, Below.refl _ _, Stay.refl _ _ _, h.le⟩
theorem Num.Cur.alloc {B : Nat} {w0 w : World} {v : Value} {L : List UInt8} (h : Cur B w0 w v L) (o : Obj) : Cur B w0 (w.alloc o) v L := ⟨h.own.alloc o, h.low.alloc h.le o, h.stay.trans (Stay.alloc _ _ _ _), h.base⟩
theorem Num.Cur.chain {B : Nat} {w0 w w' : World} {v v' : Value} {L L' : List UInt8} (h : Cur B w0 w v L) (k : Cur B w w' v' L') : Cur B w0 w' v' L' := ⟨k.own, h.low.trans k.low, h.stay.trans k.stay, h.base⟩
theorem lensB : (∀ n : Int, (num8 n).length = 8) ∧ (∀ n : Nat, (be8 n).length = 8) ∧ (∀ s : ByteArray, (txtB s).length = 8 + s.size) ∧ ([] : List UInt8).length = 0 := ⟨num8_len, be8_len, txt_len, rfl⟩
theorem numB_len (b : Bool) : (num8 (if b then 1 else 0)).length = 8 := num8_len _
theorem flat_snoc {α : Type} (f : α → List UInt8) (l : List α) (k : Nat) (hk : k < l.length) : (l.take (k + 1)).flatMap f = (l.take k).flatMap f ++ f l[k] := by
  rw [List.take_succ_eq_append_getElem hk, List.flatMap_append]
  simp
theorem flat_ge {α : Type} (f : α → List UInt8) : ∀ (l : List α), (∀ x, 1 ≤ (f x).length) → l.length ≤ (l.flatMap f).length
  | [], _ => by simp
  | x :: l, h => by
    have h1 := h x
    have h2 := flat_ge f l h
    rw [List.flatMap_cons, List.length_append, List.length_cons]
    omega
theorem flat_at {α : Type} (f : α → List UInt8) (l : List α) (k : Nat) (hk : k < l.length) : ((l.take k).flatMap f).length + (f l[k]).length ≤ (l.flatMap f).length := by
  have h := congrArg List.length (flat_snoc f l k hk)
  have h2 : (l.flatMap f).length = ((l.take (k + 1)).flatMap f).length + ((l.drop (k + 1)).flatMap f).length := by
    rw [← List.length_append, ← List.flatMap_append, List.take_append_drop]
  rw [List.length_append] at h
  omega

theorem dval_any (x : Val) {B : Nat} {w0 w : World} {v : Value} {L : List UInt8} (hc0 : Cur B w0 w v L) (hlen : L.length + (valB x).length ≤ 1000000) :
    Calls Tryz.prog 160 #[v, .agg #[.int .i64 x.k, .int .i64 x.n, .int .u64 (x.f : Int), .string x.s]] w fun e w' => ∃ v', e = .returned v' ∧ Cur B w0 w' v' (L ++ valB x) := by
  have hlen2 := hlen
  unfold valB at hlen2
  simp only [List.length_append, lensB] at hlen2
  have hc := hc0.start (.cells #[.int .i64 x.k, .int .i64 x.n, .int .u64 (x.f : Int), .string x.s] 119)
  have hbx := heap_new w (.cells #[.int .i64 x.k, .int .i64 x.n, .int .u64 (x.f : Int), .string x.s] 119)
  go_enter Tryz.func160, Tryz.ntmps160
  go_wp2_with (first
    | (go_at_call 142; refine (dnum_any _ hc (by first | omega | (simp only [List.length_append, lensB]; omega))).mono ?_; rintro e _ ⟨_, rfl, hc⟩; have bx := hc.box hbx (by decide); have c0 := box_cell bx 0 _ rfl; have c1 := box_cell bx 1 _ rfl; have c2 := box_cell bx 2 _ rfl; have c3 := box_cell bx 3 _ rfl)
    | (go_at_call 165; refine (dnum64_any _ hc (by first | omega | (simp only [List.length_append, lensB]; omega))).mono ?_; rintro e _ ⟨_, rfl, hc⟩; have bx := hc.box hbx (by decide); have c0 := box_cell bx 0 _ rfl; have c1 := box_cell bx 1 _ rfl; have c2 := box_cell bx 2 _ rfl; have c3 := box_cell bx 3 _ rfl)
    | (go_at_call 166; refine (dnumU_any _ hc (by first | omega | (simp only [List.length_append, lensB]; omega))).mono ?_; rintro e _ ⟨_, rfl, hc⟩; have bx := hc.box hbx (by decide); have c0 := box_cell bx 0 _ rfl; have c1 := box_cell bx 1 _ rfl; have c2 := box_cell bx 2 _ rfl; have c3 := box_cell bx 3 _ rfl)
    | (go_at_call 144; refine (dtext_any _ hc (by first | omega | (simp only [List.length_append, lensB]; omega))).mono ?_; rintro e _ ⟨_, rfl, hc⟩; have bx := hc.box hbx (by decide); have c0 := box_cell bx 0 _ rfl; have c1 := box_cell bx 1 _ rfl; have c2 := box_cell bx 2 _ rfl; have c3 := box_cell bx 3 _ rfl))
  go_ret
  refine ⟨_, rfl, hc0.join (hc.as ?_)⟩
  unfold valB
  simp only [List.append_assoc]
theorem Num.Cur.drew {B : Nat} {w0 w : World} {v : Value} {L : List UInt8} (h : Cur B w0 w v L) : Cur B w0 w.drew v L := ⟨World.ownsRow.drew h.own, h.low.drew, h.stay.drew, h.base⟩
theorem heap_drewC {w : World} {b : Nat} {o : Obj} (h : w.heap[b]? = some o) : w.drew.heap[b]? = some o := h
theorem drng_any (x : Rng) {B : Nat} {w0 w : World} {v : Value} {L : List UInt8} (hc0 : Cur B w0 w v L) (hlen : L.length + (rngB x).length ≤ 1000000) :
    Calls Tryz.prog 146 #[v, .agg #[.string x.lo, .string x.hi]] w fun e w' => ∃ v', e = .returned v' ∧ Cur B w0 w' v' (L ++ rngB x) := by
  have hlen2 := hlen
  unfold rngB at hlen2
  simp only [List.length_append, lensB] at hlen2
  have hcd := (hc0.start (.cells #[.string x.lo, .string x.hi] 67)).drew
  have hbx := heap_new w (.cells #[.string x.lo, .string x.hi] 67)
  have hS0 : (w.alloc (.cells #[.string x.lo, .string x.hi] 67)).drew.cell? ⟨w.heap.size, 0, none⟩ = some (.string x.lo) ∧ (w.alloc (.cells #[.string x.lo, .string x.hi] 67)).drew.cell? ⟨w.heap.size, 1, none⟩ = some (.string x.hi) := And.intro (box_cell (heap_drewC hbx) 0 _ rfl) (box_cell (heap_drewC hbx) 1 _ rfl)
  go_enter Tryz.func146, Tryz.ntmps146
  go_wp2_with fail
  go_region_held_law (fun w' : World => w'.cell? ⟨w.heap.size, 0, none⟩ = some (.string x.lo) ∧ w'.cell? ⟨w.heap.size, 1, none⟩ = some (.string x.hi)) (first | with_reducible exact hS0 | with_reducible exact hS1 | with_reducible exact hS2 | fail) (first
    | (go_at_call 144; refine (dtext_any _ hc1 (by first | omega | (simp only [List.length_append, lensB]; omega))).mono ?_; rintro e w2 ⟨v2, rfl, hc2⟩; clear hc1; have bx2 := hc2.box hbx (by decide); have hS2 : w2.cell? ⟨w.heap.size, 0, none⟩ = some (.string x.lo) ∧ w2.cell? ⟨w.heap.size, 1, none⟩ = some (.string x.hi) := And.intro (box_cell bx2 0 _ rfl) (box_cell bx2 1 _ rfl))
    | (go_at_call 144; refine (dtext_any _ hcd (by first | omega | (simp only [List.length_append, lensB]; omega))).mono ?_; rintro e w1 ⟨v1, rfl, hc1⟩; clear hcd; have bx1 := hc1.box hbx (by decide); have hS1 : w1.cell? ⟨w.heap.size, 0, none⟩ = some (.string x.lo) ∧ w1.cell? ⟨w.heap.size, 1, none⟩ = some (.string x.hi) := And.intro (box_cell bx1 0 _ rfl) (box_cell bx1 1 _ rfl)))
  all_goals
    go_wp2
    go_ret
    refine ⟨_, rfl, hc0.join (hc2.as ?_)⟩
    unfold rngB
    simp only [List.append_assoc]
theorem dwrt_any (x : Wrt) {B : Nat} {w0 w : World} {v : Value} {L : List UInt8} (hc0 : Cur B w0 w v L) (hlen : L.length + (wrtB x).length ≤ 1000000) :
    Calls Tryz.prog 148 #[v, .agg #[.string x.key, .string x.val, .bool x.del]] w fun e w' => ∃ v', e = .returned v' ∧ Cur B w0 w' v' (L ++ wrtB x) := by
  have hlen2 := hlen
  unfold wrtB at hlen2
  simp only [List.length_append, lensB] at hlen2
  have hcd := (hc0.start (.cells #[.string x.key, .string x.val, .bool x.del] 72)).drew
  have hbx := heap_new w (.cells #[.string x.key, .string x.val, .bool x.del] 72)
  have hS0 : (w.alloc (.cells #[.string x.key, .string x.val, .bool x.del] 72)).drew.cell? ⟨w.heap.size, 0, none⟩ = some (.string x.key) ∧ (w.alloc (.cells #[.string x.key, .string x.val, .bool x.del] 72)).drew.cell? ⟨w.heap.size, 1, none⟩ = some (.string x.val) ∧ (w.alloc (.cells #[.string x.key, .string x.val, .bool x.del] 72)).drew.cell? ⟨w.heap.size, 2, none⟩ = some (.bool x.del) := And.intro (box_cell (heap_drewC hbx) 0 _ rfl) (And.intro (box_cell (heap_drewC hbx) 1 _ rfl) (box_cell (heap_drewC hbx) 2 _ rfl))
  go_enter Tryz.func148, Tryz.ntmps148
  go_wp2_with fail
  go_region_held_law (fun w' : World => w'.cell? ⟨w.heap.size, 0, none⟩ = some (.string x.key) ∧ w'.cell? ⟨w.heap.size, 1, none⟩ = some (.string x.val) ∧ w'.cell? ⟨w.heap.size, 2, none⟩ = some (.bool x.del)) (first | with_reducible exact hS0 | with_reducible exact hS1 | with_reducible exact hS2 | with_reducible exact hS3 | fail) (first
    | (go_at_call 158; refine (dbool_any _ hc2 (by first | omega | (simp only [List.length_append, lensB]; omega))).mono ?_; rintro e w3 ⟨v3, rfl, hc3⟩; clear hc2; have bx3 := hc3.box hbx (by decide); have hS3 : w3.cell? ⟨w.heap.size, 0, none⟩ = some (.string x.key) ∧ w3.cell? ⟨w.heap.size, 1, none⟩ = some (.string x.val) ∧ w3.cell? ⟨w.heap.size, 2, none⟩ = some (.bool x.del) := And.intro (box_cell bx3 0 _ rfl) (And.intro (box_cell bx3 1 _ rfl) (box_cell bx3 2 _ rfl)))
    | (go_at_call 144; refine (dtext_any _ hc1 (by first | omega | (simp only [List.length_append, lensB]; omega))).mono ?_; rintro e w2 ⟨v2, rfl, hc2⟩; clear hc1; have bx2 := hc2.box hbx (by decide); have hS2 : w2.cell? ⟨w.heap.size, 0, none⟩ = some (.string x.key) ∧ w2.cell? ⟨w.heap.size, 1, none⟩ = some (.string x.val) ∧ w2.cell? ⟨w.heap.size, 2, none⟩ = some (.bool x.del) := And.intro (box_cell bx2 0 _ rfl) (And.intro (box_cell bx2 1 _ rfl) (box_cell bx2 2 _ rfl)))
    | (go_at_call 144; refine (dtext_any _ hcd (by first | omega | (simp only [List.length_append, lensB]; omega))).mono ?_; rintro e w1 ⟨v1, rfl, hc1⟩; clear hcd; have bx1 := hc1.box hbx (by decide); have hS1 : w1.cell? ⟨w.heap.size, 0, none⟩ = some (.string x.key) ∧ w1.cell? ⟨w.heap.size, 1, none⟩ = some (.string x.val) ∧ w1.cell? ⟨w.heap.size, 2, none⟩ = some (.bool x.del) := And.intro (box_cell bx1 0 _ rfl) (And.intro (box_cell bx1 1 _ rfl) (box_cell bx1 2 _ rfl))))
  all_goals
    go_wp2
    go_ret
    refine ⟨_, rfl, hc0.join (hc3.as ?_)⟩
    unfold wrtB
    simp only [List.append_assoc]
theorem dtexts_any (ao : Option Addr) (cap : Nat) (l : List ByteArray) {B : Nat} {w0 w : World} {v : Value} {L : List UInt8} (hc : Cur B w0 w v L) (hl : LiesS w B ao l) (hlen : L.length + (lstB txtB l).length ≤ 1000000) :
    Calls Tryz.prog 143 #[v, .slice ao l.length cap, .func (.func 144) #[] #[]] w fun e w' => ∃ v', e = .returned v' ∧ Cur B w0 w' v' (L ++ lstB txtB l) := by
  unfold lstB at hlen ⊢
  rw [List.length_append, num8_len] at hlen
  have h := dnum_any (l.length : Int) hc.here (by omega)
  have hll : l.length ≤ 1000000 := by
    have := flat_ge txtB l (fun x => by rw [txt_len]; omega)
    omega
  go_enter Tryz.func143, Tryz.ntmps143
  go_wp2_with (first
    | (go_at_call 142; refine h.mono ?_; rintro e w1 ⟨v1, rfl, h1⟩))
  clear h
  go_loopw [0, 15] (fun x i wr => ∃ k : Nat, k ≤ l.length ∧ i = .int .i64 (k : Int) ∧ Cur B w wr x (L ++ (num8 (l.length : Int) ++ (l.take k).flatMap txtB))) (fun _ i _ => l.length - (intOf i).toNat)
  case atStart => exact ⟨0, by omega, rfl, h1.as (by simp)⟩
  case round =>
    obtain ⟨k, hk, rfl, hr⟩ := hrel
    clear h1
    by_cases hkl : k < l.length
    · obtain ⟨a, rfl, hblk, c0⟩ := (hl.below TxtAt.fast hr.low) k l[k] (List.getElem?_eq_getElem hkl)
      rw [Nat.mul_one] at c0
      unfold TxtAt at c0
      have hsum := flat_at txtB l k hkl
      have hcat := flat_snoc txtB l k hkl
      have hp := dtext_any l[k] hr (by have h8 := txt_len l[k]; simp only [List.length_append, lensB]; omega)
      clear hsum
      generalize l[k] = y at *
      go_wp2_with (first
        | (go_at_call 144; refine hp.mono ?_; rintro e w2 ⟨v2, rfl, h2⟩))
      go_roundw
      case rel => exact ⟨k + 1, by omega, by go_num, h2.as (by rw [hcat]; simp only [List.append_assoc])⟩
      case measure => simp [intOf]; omega
    · have hke : k = l.length := by omega
      subst hke
      rw [List.take_length] at hr
      go_wp2
      go_ret
      exact ⟨_, rfl, hc.chain hr⟩
theorem drngs_any (ao : Option Addr) (cap : Nat) (l : List Rng) {B : Nat} {w0 w : World} {v : Value} {L : List UInt8} (hc : Cur B w0 w v L) (hl : LiesQ w B ao l) (hlen : L.length + (lstB rngB l).length ≤ 1000000) :
    Calls Tryz.prog 145 #[v, .slice ao l.length cap, .func (.func 146) #[] #[]] w fun e w' => ∃ v', e = .returned v' ∧ Cur B w0 w' v' (L ++ lstB rngB l) := by
  unfold lstB at hlen ⊢
  rw [List.length_append, num8_len] at hlen
  have h := dnum_any (l.length : Int) hc.here (by omega)
  have hll : l.length ≤ 1000000 := by
    have := flat_ge rngB l (fun x => by unfold rngB; simp only [List.length_append, txt_len]; omega)
    omega
  go_enter Tryz.func145, Tryz.ntmps145
  go_wp2_with (first
    | (go_at_call 142; refine h.mono ?_; rintro e w1 ⟨v1, rfl, h1⟩))
  clear h
  go_loopw [0, 15] (fun x i wr => ∃ k : Nat, k ≤ l.length ∧ i = .int .i64 (k : Int) ∧ Cur B w wr x (L ++ (num8 (l.length : Int) ++ (l.take k).flatMap rngB))) (fun _ i _ => l.length - (intOf i).toNat)
  case atStart => exact ⟨0, by omega, rfl, h1.as (by simp)⟩
  case round =>
    obtain ⟨k, hk, rfl, hr⟩ := hrel
    clear h1
    by_cases hkl : k < l.length
    · obtain ⟨a, rfl, hblk, c0, c1⟩ := (hl.below RngAt.fast hr.low) k l[k] (List.getElem?_eq_getElem hkl)
      have hsum := flat_at rngB l k hkl
      have hcat := flat_snoc rngB l k hkl
      have hp := drng_any l[k] (hr.alloc (.cells #[.string l[k].lo, .string l[k].hi] 67)) (by first | omega | (simp only [List.length_append, lensB]; omega))
      clear hsum
      generalize l[k] = y at *
      go_wp2_with (first
        | (go_at_call 146; refine hp.mono ?_; rintro e w2 ⟨v2, rfl, h2⟩))
      go_roundw
      case rel => exact ⟨k + 1, by omega, by go_num, h2.as (by rw [hcat]; simp only [List.append_assoc])⟩
      case measure => simp [intOf]; omega
    · have hke : k = l.length := by omega
      subst hke
      rw [List.take_length] at hr
      go_wp2
      go_ret
      exact ⟨_, rfl, hc.chain hr⟩
theorem dwrts_any (ao : Option Addr) (cap : Nat) (l : List Wrt) {B : Nat} {w0 w : World} {v : Value} {L : List UInt8} (hc : Cur B w0 w v L) (hl : LiesW w B ao l) (hlen : L.length + (lstB wrtB l).length ≤ 1000000) :
    Calls Tryz.prog 147 #[v, .slice ao l.length cap, .func (.func 148) #[] #[]] w fun e w' => ∃ v', e = .returned v' ∧ Cur B w0 w' v' (L ++ lstB wrtB l) := by
  unfold lstB at hlen ⊢
  rw [List.length_append, num8_len] at hlen
  have h := dnum_any (l.length : Int) hc.here (by omega)
  have hll : l.length ≤ 1000000 := by
    have := flat_ge wrtB l (fun x => by unfold wrtB; simp only [List.length_append, num8_len]; omega)
    omega
  go_enter Tryz.func147, Tryz.ntmps147
  go_wp2_with (first
    | (go_at_call 142; refine h.mono ?_; rintro e w1 ⟨v1, rfl, h1⟩))
  clear h
  go_loopw [0, 15] (fun x i wr => ∃ k : Nat, k ≤ l.length ∧ i = .int .i64 (k : Int) ∧ Cur B w wr x (L ++ (num8 (l.length : Int) ++ (l.take k).flatMap wrtB))) (fun _ i _ => l.length - (intOf i).toNat)
  case atStart => exact ⟨0, by omega, rfl, h1.as (by simp)⟩
  case round =>
    obtain ⟨k, hk, rfl, hr⟩ := hrel
    clear h1
    by_cases hkl : k < l.length
    · obtain ⟨a, rfl, hblk, c0, c1, c2⟩ := (hl.below WrtAt.fast hr.low) k l[k] (List.getElem?_eq_getElem hkl)
      have hsum := flat_at wrtB l k hkl
      have hcat := flat_snoc wrtB l k hkl
      have hp := dwrt_any l[k] (hr.alloc (.cells #[.string l[k].key, .string l[k].val, .bool l[k].del] 72)) (by first | omega | (simp only [List.length_append, lensB]; omega))
      clear hsum
      generalize l[k] = y at *
      go_wp2_with (first
        | (go_at_call 148; refine hp.mono ?_; rintro e w2 ⟨v2, rfl, h2⟩))
      go_roundw
      case rel => exact ⟨k + 1, by omega, by go_num, h2.as (by rw [hcat]; simp only [List.append_assoc])⟩
      case measure => simp [intOf]; omega
    · have hke : k = l.length := by omega
      subst hke
      rw [List.take_length] at hr
      go_wp2
      go_ret
      exact ⟨_, rfl, hc.chain hr⟩
theorem dvals_any (ao : Option Addr) (cap : Nat) (l : List Val) {B : Nat} {w0 w : World} {v : Value} {L : List UInt8} (hc : Cur B w0 w v L) (hl : LiesVal w B ao l) (hlen : L.length + (lstB valB l).length ≤ 1000000) :
    Calls Tryz.prog 159 #[v, .slice ao l.length cap, .func (.func 160) #[] #[]] w fun e w' => ∃ v', e = .returned v' ∧ Cur B w0 w' v' (L ++ lstB valB l) := by
  unfold lstB at hlen ⊢
  rw [List.length_append, num8_len] at hlen
  have h := dnum_any (l.length : Int) hc.here (by omega)
  have hll : l.length ≤ 1000000 := by
    have := flat_ge valB l (fun x => by unfold valB; simp only [List.length_append, num8_len]; omega)
    omega
  go_enter Tryz.func159, Tryz.ntmps159
  go_wp2_with (first
    | (go_at_call 142; refine h.mono ?_; rintro e w1 ⟨v1, rfl, h1⟩))
  clear h
  go_loopw [0, 15] (fun x i wr => ∃ k : Nat, k ≤ l.length ∧ i = .int .i64 (k : Int) ∧ Cur B w wr x (L ++ (num8 (l.length : Int) ++ (l.take k).flatMap valB))) (fun _ i _ => l.length - (intOf i).toNat)
  case atStart => exact ⟨0, by omega, rfl, h1.as (by simp)⟩
  case round =>
    obtain ⟨k, hk, rfl, hr⟩ := hrel
    clear h1
    by_cases hkl : k < l.length
    · obtain ⟨a, rfl, hblk, c0, c1, c2, c3⟩ := (hl.below ValAt.fast hr.low) k l[k] (List.getElem?_eq_getElem hkl)
      have hsum := flat_at valB l k hkl
      have hcat := flat_snoc valB l k hkl
      have hp := dval_any l[k] (hr.alloc (.cells #[.int .i64 l[k].k, .int .i64 l[k].n, .int .u64 (l[k].f : Int), .string l[k].s] 119)) (by first | omega | (simp only [List.length_append, lensB]; omega))
      clear hsum
      generalize l[k] = y at *
      go_wp2_with (first
        | (go_at_call 160; refine hp.mono ?_; rintro e w2 ⟨v2, rfl, h2⟩))
      go_roundw
      case rel => exact ⟨k + 1, by omega, by go_num, h2.as (by rw [hcat]; simp only [List.append_assoc])⟩
      case measure => simp [intOf]; omega
    · have hke : k = l.length := by omega
      subst hke
      rw [List.take_length] at hr
      go_wp2
      go_ret
      exact ⟨_, rfl, hc.chain hr⟩
theorem drow_any (ao : Option Addr) (cap : Nat) (l : List Val) {B : Nat} {w0 w : World} {v : Value} {L : List UInt8} (hc : Cur B w0 w v L) (hl : LiesVal w B ao l) (hlen : L.length + (rowB' l).length ≤ 1000000) :
    Calls Tryz.prog 150 #[v, .slice ao l.length cap] w fun e w' => ∃ v', e = .returned v' ∧ Cur B w0 w' v' (L ++ rowB' l) := by
  have hmf : ∀ (fn : Fn) (first cap : Array Value) (w : World), (Instr.makeFunc fn first cap).run Tryz.prog w = .ok (.func fn first cap) w := fun _ _ _ _ => rfl
  have h := dvals_any ao cap l hc hl hlen
  go_enter Tryz.func150, Tryz.ntmps150
  go_wp2_with (go_at_call 159; refine h.mono ?_; rintro e w1 ⟨v1, rfl, h1⟩)
  go_ret
  exact ⟨_, rfl, h1⟩
theorem drows_any (ao : Option Addr) (cap : Nat) (l : List (List Val)) {B : Nat} {w0 w : World} {v : Value} {L : List UInt8} (hc : Cur B w0 w v L) (hl : LiesX w B ao l) (hlen : L.length + (lstB rowB' l).length ≤ 1000000) :
    Calls Tryz.prog 149 #[v, .slice ao l.length cap, .func (.func 150) #[] #[]] w fun e w' => ∃ v', e = .returned v' ∧ Cur B w0 w' v' (L ++ lstB rowB' l) := by
  unfold lstB at hlen ⊢
  rw [List.length_append, num8_len] at hlen
  have h := dnum_any (l.length : Int) hc.here (by omega)
  have hll : l.length ≤ 1000000 := by
    have := flat_ge rowB' l (fun x => by unfold rowB' lstB; simp only [List.length_append, num8_len]; omega)
    omega
  go_enter Tryz.func149, Tryz.ntmps149
  go_wp2_with (first
    | (go_at_call 142; refine h.mono ?_; rintro e w1 ⟨v1, rfl, h1⟩))
  clear h
  go_loopw [0, 15] (fun x i wr => ∃ k : Nat, k ≤ l.length ∧ i = .int .i64 (k : Int) ∧ Cur B w wr x (L ++ (num8 (l.length : Int) ++ (l.take k).flatMap rowB'))) (fun _ i _ => l.length - (intOf i).toNat)
  case atStart => exact ⟨0, by omega, rfl, h1.as (by simp)⟩
  case round =>
    obtain ⟨k, hk, rfl, hr⟩ := hrel
    clear h1
    by_cases hkl : k < l.length
    · obtain ⟨a, rfl, hblk, ao2, cap2, c0, hl2⟩ := (hl.below RowAt.fast hr.low) k l[k] (List.getElem?_eq_getElem hkl)
      rw [Nat.mul_one] at c0
      have hsum := flat_at rowB' l k hkl
      have hcat := flat_snoc rowB' l k hkl
      have hp := drow_any ao2 cap2 l[k] hr hl2 (by first | omega | (simp only [List.length_append, lensB]; omega))
      clear hsum
      generalize l[k] = y at *
      go_wp2_with (first
        | (go_at_call 150; refine hp.mono ?_; rintro e w2 ⟨v2, rfl, h2⟩))
      go_roundw
      case rel => exact ⟨k + 1, by omega, by go_num, h2.as (by rw [hcat]; simp only [List.append_assoc])⟩
      case measure => simp [intOf]; omega
    · have hke : k = l.length := by omega
      subst hke
      rw [List.take_length] at hr
      go_wp2
      go_ret
      exact ⟨_, rfl, hc.chain hr⟩
set_option maxRecDepth 100000 in
set_option maxHeartbeats 2000000 in
theorem dcmd_any (c : Cmd) (s : Cs) {B : Nat} {w0 w : World} {v : Value} {L : List UInt8} (hc0 : Cur B w0 w v L) (hl0 : LiesC w B s c) (hlen : L.length + (cmdB c).length ≤ 1000000) :
    Calls Tryz.prog 117 #[v, .agg #[.int .i64 c.kind, .int .i64 c.client, .int .i64 c.seq, .int .i64 c.snap, .slice s.ko c.keys.length s.kc, .slice s.ro c.rngs.length s.rc, .slice s.wo c.wrts.length s.wc, .int .i64 c.dead, .int .i64 c.aft, .int .i64 c.held, .string c.text, .int .i64 c.code, .slice s.xo c.rows.length s.xc]] w fun e w' => ∃ v', e = .returned v' ∧ Cur B w0 w' v' (L ++ cmdB c) := by
  have hlen2 := hlen
  unfold cmdB at hlen2
  simp only [List.length_append, lensB] at hlen2
  have hc := hc0.start (.cells #[.int .i64 c.kind, .int .i64 c.client, .int .i64 c.seq, .int .i64 c.snap, .slice s.ko c.keys.length s.kc, .slice s.ro c.rngs.length s.rc, .slice s.wo c.wrts.length s.wc, .int .i64 c.dead, .int .i64 c.aft, .int .i64 c.held, .string c.text, .int .i64 c.code, .slice s.xo c.rows.length s.xc] 41)
  have hbx := heap_new w (.cells #[.int .i64 c.kind, .int .i64 c.client, .int .i64 c.seq, .int .i64 c.snap, .slice s.ko c.keys.length s.kc, .slice s.ro c.rngs.length s.rc, .slice s.wo c.wrts.length s.wc, .int .i64 c.dead, .int .i64 c.aft, .int .i64 c.held, .string c.text, .int .i64 c.code, .slice s.xo c.rows.length s.xc] 41)
  go_enter Tryz.func117, Tryz.ntmps117
  go_wp2_with (first
    | (go_at_call 142; refine (dnum_any _ hc (by first | omega | (simp only [List.length_append, lensB]; omega))).mono ?_; rintro e _ ⟨_, rfl, hc⟩; have bx := hc.box hbx (by decide); have c0 := box_cell bx 0 _ rfl; have c1 := box_cell bx 1 _ rfl; have c2 := box_cell bx 2 _ rfl; have c3 := box_cell bx 3 _ rfl; have c4 := box_cell bx 4 _ rfl; have c5 := box_cell bx 5 _ rfl; have c6 := box_cell bx 6 _ rfl; have c7 := box_cell bx 7 _ rfl; have c8 := box_cell bx 8 _ rfl; have c9 := box_cell bx 9 _ rfl; have c10 := box_cell bx 10 _ rfl; have c11 := box_cell bx 11 _ rfl; have c12 := box_cell bx 12 _ rfl)
    | (go_at_call 144; refine (dtext_any _ hc (by first | omega | (simp only [List.length_append, lensB]; omega))).mono ?_; rintro e _ ⟨_, rfl, hc⟩; have bx := hc.box hbx (by decide); have c0 := box_cell bx 0 _ rfl; have c1 := box_cell bx 1 _ rfl; have c2 := box_cell bx 2 _ rfl; have c3 := box_cell bx 3 _ rfl; have c4 := box_cell bx 4 _ rfl; have c5 := box_cell bx 5 _ rfl; have c6 := box_cell bx 6 _ rfl; have c7 := box_cell bx 7 _ rfl; have c8 := box_cell bx 8 _ rfl; have c9 := box_cell bx 9 _ rfl; have c10 := box_cell bx 10 _ rfl; have c11 := box_cell bx 11 _ rfl; have c12 := box_cell bx 12 _ rfl)
    | (go_at_call 143; refine (dtexts_any _ _ c.keys hc ((hl0.keys.below TxtAt.fast ((Below.refl B w).alloc hc0.le _)).below TxtAt.fast hc.low) (by first | omega | (simp only [List.length_append, lensB]; omega))).mono ?_; rintro e _ ⟨_, rfl, hc⟩; have bx := hc.box hbx (by decide); have c0 := box_cell bx 0 _ rfl; have c1 := box_cell bx 1 _ rfl; have c2 := box_cell bx 2 _ rfl; have c3 := box_cell bx 3 _ rfl; have c4 := box_cell bx 4 _ rfl; have c5 := box_cell bx 5 _ rfl; have c6 := box_cell bx 6 _ rfl; have c7 := box_cell bx 7 _ rfl; have c8 := box_cell bx 8 _ rfl; have c9 := box_cell bx 9 _ rfl; have c10 := box_cell bx 10 _ rfl; have c11 := box_cell bx 11 _ rfl; have c12 := box_cell bx 12 _ rfl)
    | (go_at_call 145; refine (drngs_any _ _ c.rngs hc ((hl0.rngs.below RngAt.fast ((Below.refl B w).alloc hc0.le _)).below RngAt.fast hc.low) (by first | omega | (simp only [List.length_append, lensB]; omega))).mono ?_; rintro e _ ⟨_, rfl, hc⟩; have bx := hc.box hbx (by decide); have c0 := box_cell bx 0 _ rfl; have c1 := box_cell bx 1 _ rfl; have c2 := box_cell bx 2 _ rfl; have c3 := box_cell bx 3 _ rfl; have c4 := box_cell bx 4 _ rfl; have c5 := box_cell bx 5 _ rfl; have c6 := box_cell bx 6 _ rfl; have c7 := box_cell bx 7 _ rfl; have c8 := box_cell bx 8 _ rfl; have c9 := box_cell bx 9 _ rfl; have c10 := box_cell bx 10 _ rfl; have c11 := box_cell bx 11 _ rfl; have c12 := box_cell bx 12 _ rfl)
    | (go_at_call 147; refine (dwrts_any _ _ c.wrts hc ((hl0.wrts.below WrtAt.fast ((Below.refl B w).alloc hc0.le _)).below WrtAt.fast hc.low) (by first | omega | (simp only [List.length_append, lensB]; omega))).mono ?_; rintro e _ ⟨_, rfl, hc⟩; have bx := hc.box hbx (by decide); have c0 := box_cell bx 0 _ rfl; have c1 := box_cell bx 1 _ rfl; have c2 := box_cell bx 2 _ rfl; have c3 := box_cell bx 3 _ rfl; have c4 := box_cell bx 4 _ rfl; have c5 := box_cell bx 5 _ rfl; have c6 := box_cell bx 6 _ rfl; have c7 := box_cell bx 7 _ rfl; have c8 := box_cell bx 8 _ rfl; have c9 := box_cell bx 9 _ rfl; have c10 := box_cell bx 10 _ rfl; have c11 := box_cell bx 11 _ rfl; have c12 := box_cell bx 12 _ rfl)
    | (go_at_call 149; refine (drows_any _ _ c.rows hc ((hl0.rows.below RowAt.fast ((Below.refl B w).alloc hc0.le _)).below RowAt.fast hc.low) (by first | omega | (simp only [List.length_append, lensB]; omega))).mono ?_; rintro e _ ⟨_, rfl, hc⟩; have bx := hc.box hbx (by decide); have c0 := box_cell bx 0 _ rfl; have c1 := box_cell bx 1 _ rfl; have c2 := box_cell bx 2 _ rfl; have c3 := box_cell bx 3 _ rfl; have c4 := box_cell bx 4 _ rfl; have c5 := box_cell bx 5 _ rfl; have c6 := box_cell bx 6 _ rfl; have c7 := box_cell bx 7 _ rfl; have c8 := box_cell bx 8 _ rfl; have c9 := box_cell bx 9 _ rfl; have c10 := box_cell bx 10 _ rfl; have c11 := box_cell bx 11 _ rfl; have c12 := box_cell bx 12 _ rfl))
  go_ret
  refine ⟨_, rfl, hc0.join (hc.as ?_)⟩
  unfold cmdB
  simp only [List.append_assoc]
end Go.Proofs.YtclliljkmmpglaaGreat
