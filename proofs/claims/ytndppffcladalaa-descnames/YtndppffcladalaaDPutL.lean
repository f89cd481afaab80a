/-
  Contracts: values, columns, indexes, tables and schemas, as bytes behind bytes of the call's own (6.3): of the program.
-/
import Derived.Test.YtndppffcladalaaDPutN
namespace Go.Proofs.Ytndppffcladalaa
open Go.RowKit Num
set_option linter.unusedVariables false

theorem Num.Cur.here {B : Nat} {w0 w : World} {v : Value} {L : List UInt8} (h : Cur B w0 w v L) : Cur B w w v L := ⟨h.own, Below.refl _ _, Stay.refl _ _ _, h.le⟩
theorem Num.Cur.alloc {B : Nat} {w0 w : World} {v : Value} {L : List UInt8} (h : Cur B w0 w v L) (o : Obj) : Cur B w0 (w.alloc o) v L := ⟨h.own.alloc o, h.low.alloc h.le o, h.stay.trans (Stay.alloc _ _ _ _), h.base⟩
theorem Num.Cur.chain {B : Nat} {w0 w w' : World} {v v' : Value} {L L' : List UInt8} (h : Cur B w0 w v L) (k : Cur B w w' v' L') : Cur B w0 w' v' L' := ⟨k.own, h.low.trans k.low, h.stay.trans k.stay, h.base⟩
theorem lensB : (∀ n : Int, (num8 n).length = 8) ∧ (∀ n : Nat, (be8 n).length = 8) ∧ (∀ s : ByteArray, (txtB s).length = 8 + s.size) ∧ ([] : List UInt8).length = 0 := ⟨num8_len, be8_len, txt_len, rfl⟩
theorem numB_len (b : Bool) : (num8 (if b then 1 else 0)).length = 8 := num8_len _
theorem flat_snoc {α : Type} (f : α → List UInt8) (l : List α) (k : Nat) (hk : k < l.length) : (l.take (k + 1)).flatMap f = (l.take k).flatMap f ++ f l[k] := by
  rw [List.take_succ_eq_append_getElem hk, List.flatMap_append]
  simp
theorem flat_ge {α : Type} (f : α → List UInt8) : ∀ (l : List α), (∀ x, 1 ≤ (f x).length) → l.length ≤ (l.flatMap f).length
  | [], _ => by simp
  | x :: l, h => by
    have h1 := h x
    have h2 := flat_ge f l h
    rw [List.flatMap_cons, List.length_append, List.length_cons]
    omega
theorem flat_at {α : Type} (f : α → List UInt8) (l : List α) (k : Nat) (hk : k < l.length) : ((l.take k).flatMap f).length + (f l[k]).length ≤ (l.flatMap f).length := by
  have h := congrArg List.length (flat_snoc f l k hk)
  have h2 : (l.flatMap f).length = ((l.take (k + 1)).flatMap f).length + ((l.drop (k + 1)).flatMap f).length := by
    rw [← List.length_append, ← List.flatMap_append, List.take_append_drop]
  rw [List.length_append] at h
  omega

theorem dval_any (x : Val) {B : Nat} {w0 w : World} {v : Value} {L : List UInt8} (hc0 : Cur B w0 w v L) (hlen : L.length + (valB x).length ≤ 1000000) :
    Calls Try.prog 86 #[v, .agg #[.int .i64 x.k, .int .i64 x.n, .int .u64 (x.f : Int), .string x.s]] w fun e w' => ∃ v', e = .returned v' ∧ Cur B w0 w' v' (L ++ valB x) := by
  have hlen2 := hlen
  unfold valB at hlen2
  simp only [List.length_append, lensB] at hlen2
  have hc := hc0.start (.cells #[.int .i64 x.k, .int .i64 x.n, .int .u64 (x.f : Int), .string x.s] 43)
  have hbx := heap_new w (.cells #[.int .i64 x.k, .int .i64 x.n, .int .u64 (x.f : Int), .string x.s] 43)
  go_enter Try.func86, Try.ntmps86
  go_wp2_with (first
    | (go_at_call 49; refine (dnum_any _ hc (by first | omega | (simp only [List.length_append, lensB]; omega))).mono ?_; rintro e _ ⟨_, rfl, hc⟩; have bx := hc.box hbx (by decide); have c0 := box_cell bx 0 _ rfl; have c1 := box_cell bx 1 _ rfl; have c2 := box_cell bx 2 _ rfl; have c3 := box_cell bx 3 _ rfl)
    | (go_at_call 94; refine (dnum64_any _ hc (by first | omega | (simp only [List.length_append, lensB]; omega))).mono ?_; rintro e _ ⟨_, rfl, hc⟩; have bx := hc.box hbx (by decide); have c0 := box_cell bx 0 _ rfl; have c1 := box_cell bx 1 _ rfl; have c2 := box_cell bx 2 _ rfl; have c3 := box_cell bx 3 _ rfl)
    | (go_at_call 95; refine (dnumU_any _ hc (by first | omega | (simp only [List.length_append, lensB]; omega))).mono ?_; rintro e _ ⟨_, rfl, hc⟩; have bx := hc.box hbx (by decide); have c0 := box_cell bx 0 _ rfl; have c1 := box_cell bx 1 _ rfl; have c2 := box_cell bx 2 _ rfl; have c3 := box_cell bx 3 _ rfl)
    | (go_at_call 68; refine (dtext_any _ hc (by first | omega | (simp only [List.length_append, lensB]; omega))).mono ?_; rintro e _ ⟨_, rfl, hc⟩; have bx := hc.box hbx (by decide); have c0 := box_cell bx 0 _ rfl; have c1 := box_cell bx 1 _ rfl; have c2 := box_cell bx 2 _ rfl; have c3 := box_cell bx 3 _ rfl))
  go_ret
  refine ⟨_, rfl, hc0.join (hc.as ?_)⟩
  unfold valB
  simp only [List.append_assoc]
theorem dcol_any (c : Colm) {B : Nat} {w0 w : World} {v : Value} {L : List UInt8} (hc0 : Cur B w0 w v L) (hlen : L.length + (colB c).length ≤ 1000000) :
    Calls Try.prog 70 #[v, .agg #[.int .i64 c.id, .string c.name, .int .i64 c.kind, .int .i64 c.state, .int .i64 c.null, .int .i64 c.d.k, .int .i64 c.d.n, .int .u64 (c.d.f : Int), .string c.d.s]] w fun e w' => ∃ v', e = .returned v' ∧ Cur B w0 w' v' (L ++ colB c) := by
  have hlen2 := hlen
  unfold colB at hlen2
  simp only [List.length_append, lensB] at hlen2
  have hc := hc0.start (.cells #[.int .i64 c.id, .string c.name, .int .i64 c.kind, .int .i64 c.state, .int .i64 c.null, .int .i64 c.d.k, .int .i64 c.d.n, .int .u64 (c.d.f : Int), .string c.d.s] 45)
  have hbx := heap_new w (.cells #[.int .i64 c.id, .string c.name, .int .i64 c.kind, .int .i64 c.state, .int .i64 c.null, .int .i64 c.d.k, .int .i64 c.d.n, .int .u64 (c.d.f : Int), .string c.d.s] 45)
  go_enter Try.func70, Try.ntmps70
  go_wp2_with (first
    | (go_at_call 49; refine (dnum_any _ hc (by first | omega | (simp only [List.length_append, lensB]; omega))).mono ?_; rintro e _ ⟨_, rfl, hc⟩; have bx := hc.box hbx (by decide); have c0 := box_cell bx 0 _ rfl; have c1 := box_cell bx 1 _ rfl; have c2 := box_cell bx 2 _ rfl; have c3 := box_cell bx 3 _ rfl; have c4 := box_cell bx 4 _ rfl; have c5 := box_cell bx 5 _ rfl; have c6 := box_cell bx 6 _ rfl; have c7 := box_cell bx 7 _ rfl; have c8 := box_cell bx 8 _ rfl)
    | (go_at_call 68; refine (dtext_any _ hc (by first | omega | (simp only [List.length_append, lensB]; omega))).mono ?_; rintro e _ ⟨_, rfl, hc⟩; have bx := hc.box hbx (by decide); have c0 := box_cell bx 0 _ rfl; have c1 := box_cell bx 1 _ rfl; have c2 := box_cell bx 2 _ rfl; have c3 := box_cell bx 3 _ rfl; have c4 := box_cell bx 4 _ rfl; have c5 := box_cell bx 5 _ rfl; have c6 := box_cell bx 6 _ rfl; have c7 := box_cell bx 7 _ rfl; have c8 := box_cell bx 8 _ rfl)
    | (go_at_call 86; refine (dval_any c.d hc (by first | omega | (simp only [List.length_append, lensB]; omega))).mono ?_; rintro e _ ⟨_, rfl, hc⟩; have bx := hc.box hbx (by decide); have c0 := box_cell bx 0 _ rfl; have c1 := box_cell bx 1 _ rfl; have c2 := box_cell bx 2 _ rfl; have c3 := box_cell bx 3 _ rfl; have c4 := box_cell bx 4 _ rfl; have c5 := box_cell bx 5 _ rfl; have c6 := box_cell bx 6 _ rfl; have c7 := box_cell bx 7 _ rfl; have c8 := box_cell bx 8 _ rfl))
  go_ret
  refine ⟨_, rfl, hc0.join (hc.as ?_)⟩
  unfold colB
  simp only [List.append_assoc]
theorem dints_any (ao : Option Addr) (cap : Nat) (l : List Int) {B : Nat} {w0 w : World} {v : Value} {L : List UInt8} (hc : Cur B w0 w v L) (hl : LiesN w B ao l) (hlen : L.length + (8 + (l.flatMap num8).length) ≤ 1000000) :
    Calls Try.prog 87 #[v, .slice ao l.length cap, .func (.func 49) #[] #[]] w fun e w' => ∃ v', e = .returned v' ∧ Cur B w0 w' v' (L ++ (num8 (l.length : Int) ++ l.flatMap num8)) := by
  have h := dnum_any (l.length : Int) hc.here (by omega)
  have hll : l.length ≤ 1000000 := by
    have := flat_ge num8 l (fun x => by rw [num8_len]; omega)
    omega
  go_enter Try.func87, Try.ntmps87
  go_wp2_with (first
    | (go_at_call 49; refine h.mono ?_; rintro e w1 ⟨v1, rfl, h1⟩))
  clear h
  go_loopw [0, 15] (fun x i wr => ∃ k : Nat, k ≤ l.length ∧ i = .int .i64 (k : Int) ∧ Cur B w wr x (L ++ (num8 (l.length : Int) ++ (l.take k).flatMap num8))) (fun _ i _ => l.length - (intOf i).toNat)
  case atStart => exact ⟨0, by omega, rfl, h1.as (by simp)⟩
  case round =>
    obtain ⟨k, hk, rfl, hr⟩ := hrel
    clear h1
    by_cases hkl : k < l.length
    · obtain ⟨a, rfl, hblk, c0⟩ := (hl.below NumAt.fast hr.low) k l[k] (List.getElem?_eq_getElem hkl)
      rw [Nat.mul_one] at c0
      unfold NumAt at c0
      have hsum := flat_at num8 l k hkl
      have hcat := flat_snoc num8 l k hkl
      have hp := dnum_any l[k] hr (by have h8 := num8_len l[k]; simp only [List.length_append, lensB]; omega)
      clear hsum
      generalize l[k] = y at *
      go_wp2_with (first
        | (go_at_call 49; refine hp.mono ?_; rintro e w2 ⟨v2, rfl, h2⟩))
      go_roundw
      case rel => exact ⟨k + 1, by omega, by go_num, h2.as (by rw [hcat]; simp only [List.append_assoc])⟩
      case measure => simp [intOf]; omega
    · have hke : k = l.length := by omega
      subst hke
      rw [List.take_length] at hr
      go_wp2
      go_ret
      exact ⟨_, rfl, hc.chain hr⟩
theorem didx_any (x : Idx) (ao2 : Option Addr) (cap2 : Nat) {B : Nat} {w0 w : World} {v : Value} {L : List UInt8} (hc0 : Cur B w0 w v L) (hl2 : LiesN w B ao2 x.cols) (hlen : L.length + (idxB x).length ≤ 1000000) :
    Calls Try.prog 72 #[v, .agg #[.int .i64 x.id, .string x.name, .slice ao2 x.cols.length cap2, .bool x.uniq, .int .i64 x.state]] w fun e w' => ∃ v', e = .returned v' ∧ Cur B w0 w' v' (L ++ idxB x) := by
  have hlen2 := hlen
  unfold idxB at hlen2
  simp only [List.length_append, lensB] at hlen2
  have hc := hc0.start (.cells #[.int .i64 x.id, .string x.name, .slice ao2 x.cols.length cap2, .bool x.uniq, .int .i64 x.state] 52)
  have hbx := heap_new w (.cells #[.int .i64 x.id, .string x.name, .slice ao2 x.cols.length cap2, .bool x.uniq, .int .i64 x.state] 52)
  go_enter Try.func72, Try.ntmps72
  go_wp2_with (first
    | (go_at_call 49; refine (dnum_any _ hc (by first | omega | (simp only [List.length_append, lensB]; omega))).mono ?_; rintro e _ ⟨_, rfl, hc⟩; have bx := hc.box hbx (by decide); have c0 := box_cell bx 0 _ rfl; have c1 := box_cell bx 1 _ rfl; have c2 := box_cell bx 2 _ rfl; have c3 := box_cell bx 3 _ rfl; have c4 := box_cell bx 4 _ rfl)
    | (go_at_call 68; refine (dtext_any _ hc (by first | omega | (simp only [List.length_append, lensB]; omega))).mono ?_; rintro e _ ⟨_, rfl, hc⟩; have bx := hc.box hbx (by decide); have c0 := box_cell bx 0 _ rfl; have c1 := box_cell bx 1 _ rfl; have c2 := box_cell bx 2 _ rfl; have c3 := box_cell bx 3 _ rfl; have c4 := box_cell bx 4 _ rfl)
    | (go_at_call 87; refine (dints_any _ _ x.cols hc ((hl2.below NumAt.fast ((Below.refl B w).alloc hc0.le _)).below NumAt.fast hc.low) (by first | omega | (simp only [List.length_append, lensB]; omega))).mono ?_; rintro e _ ⟨_, rfl, hc⟩; have bx := hc.box hbx (by decide); have c0 := box_cell bx 0 _ rfl; have c1 := box_cell bx 1 _ rfl; have c2 := box_cell bx 2 _ rfl; have c3 := box_cell bx 3 _ rfl; have c4 := box_cell bx 4 _ rfl)
    | (go_at_call 88; refine (dbool_any _ hc (by first | omega | (simp only [List.length_append, lensB]; omega))).mono ?_; rintro e _ ⟨_, rfl, hc⟩; have bx := hc.box hbx (by decide); have c0 := box_cell bx 0 _ rfl; have c1 := box_cell bx 1 _ rfl; have c2 := box_cell bx 2 _ rfl; have c3 := box_cell bx 3 _ rfl; have c4 := box_cell bx 4 _ rfl))
  go_ret
  refine ⟨_, rfl, hc0.join (hc.as ?_)⟩
  unfold idxB
  simp only [List.append_assoc]
theorem dcols_any (ao : Option Addr) (cap : Nat) (l : List Colm) {B : Nat} {w0 w : World} {v : Value} {L : List UInt8} (hc : Cur B w0 w v L) (hl : LiesK w B ao l) (hlen : L.length + (8 + (l.flatMap colB).length) ≤ 1000000) :
    Calls Try.prog 69 #[v, .slice ao l.length cap, .func (.func 70) #[] #[]] w fun e w' => ∃ v', e = .returned v' ∧ Cur B w0 w' v' (L ++ (num8 (l.length : Int) ++ l.flatMap colB)) := by
  have h := dnum_any (l.length : Int) hc.here (by omega)
  have hll : l.length ≤ 1000000 := by
    have := flat_ge colB l (fun x => by unfold colB; simp only [List.length_append, num8_len]; omega)
    omega
  go_enter Try.func69, Try.ntmps69
  go_wp2_with (first
    | (go_at_call 49; refine h.mono ?_; rintro e w1 ⟨v1, rfl, h1⟩))
  clear h
  go_loopw [0, 15] (fun x i wr => ∃ k : Nat, k ≤ l.length ∧ i = .int .i64 (k : Int) ∧ Cur B w wr x (L ++ (num8 (l.length : Int) ++ (l.take k).flatMap colB))) (fun _ i _ => l.length - (intOf i).toNat)
  case atStart => exact ⟨0, by omega, rfl, h1.as (by simp)⟩
  case round =>
    obtain ⟨k, hk, rfl, hr⟩ := hrel
    clear h1
    by_cases hkl : k < l.length
    · obtain ⟨a, rfl, hblk, c0, c1, c2, c3, c4, c5, c6, c7, c8⟩ := (hl.below ColAt.fast hr.low) k l[k] (List.getElem?_eq_getElem hkl)
      have hsum := flat_at colB l k hkl
      have hcat := flat_snoc colB l k hkl
      have hp := dcol_any l[k] (hr.alloc (.cells #[.int .i64 l[k].id, .string l[k].name, .int .i64 l[k].kind, .int .i64 l[k].state, .int .i64 l[k].null, .int .i64 l[k].d.k, .int .i64 l[k].d.n, .int .u64 (l[k].d.f : Int), .string l[k].d.s] 45)) (by first | omega | (simp only [List.length_append, lensB]; omega))
      clear hsum
      generalize l[k] = y at *
      go_wp2_with (first
        | (go_at_call 70; refine hp.mono ?_; rintro e w2 ⟨v2, rfl, h2⟩))
      go_roundw
      case rel => exact ⟨k + 1, by omega, by go_num, h2.as (by rw [hcat]; simp only [List.append_assoc])⟩
      case measure => simp [intOf]; omega
    · have hke : k = l.length := by omega
      subst hke
      rw [List.take_length] at hr
      go_wp2
      go_ret
      exact ⟨_, rfl, hc.chain hr⟩
theorem didxs_any (ao : Option Addr) (cap : Nat) (l : List Idx) {B : Nat} {w0 w : World} {v : Value} {L : List UInt8} (hc : Cur B w0 w v L) (hl : LiesI w B ao l) (hlen : L.length + (8 + (l.flatMap idxB).length) ≤ 1000000) :
    Calls Try.prog 71 #[v, .slice ao l.length cap, .func (.func 72) #[] #[]] w fun e w' => ∃ v', e = .returned v' ∧ Cur B w0 w' v' (L ++ (num8 (l.length : Int) ++ l.flatMap idxB)) := by
  have h := dnum_any (l.length : Int) hc.here (by omega)
  have hll : l.length ≤ 1000000 := by
    have := flat_ge idxB l (fun x => by unfold idxB; simp only [List.length_append, num8_len]; omega)
    omega
  go_enter Try.func71, Try.ntmps71
  go_wp2_with (first
    | (go_at_call 49; refine h.mono ?_; rintro e w1 ⟨v1, rfl, h1⟩))
  clear h
  go_loopw [0, 15] (fun x i wr => ∃ k : Nat, k ≤ l.length ∧ i = .int .i64 (k : Int) ∧ Cur B w wr x (L ++ (num8 (l.length : Int) ++ (l.take k).flatMap idxB))) (fun _ i _ => l.length - (intOf i).toNat)
  case atStart => exact ⟨0, by omega, rfl, h1.as (by simp)⟩
  case round =>
    obtain ⟨k, hk, rfl, hr⟩ := hrel
    clear h1
    by_cases hkl : k < l.length
    · obtain ⟨a, rfl, hblk, c0, c1, ⟨ao2, cap2, c2, hl2, hca2⟩, c3, c4⟩ := (hl.below IdxAt.fast hr.low) k l[k] (List.getElem?_eq_getElem hkl)
      have hsum := flat_at idxB l k hkl
      have hcat := flat_snoc idxB l k hkl
      have hp := didx_any l[k] ao2 cap2 (hr.alloc (.cells #[.int .i64 l[k].id, .string l[k].name, .slice ao2 l[k].cols.length cap2, .bool l[k].uniq, .int .i64 l[k].state] 52)) (hl2.below NumAt.fast ((Below.refl B _).alloc hr.le _)) (by first | omega | (simp only [List.length_append, lensB]; omega))
      clear hsum
      generalize l[k] = y at *
      go_wp2_with (first
        | (go_at_call 72; refine hp.mono ?_; rintro e w2 ⟨v2, rfl, h2⟩))
      go_roundw
      case rel => exact ⟨k + 1, by omega, by go_num, h2.as (by rw [hcat]; simp only [List.append_assoc])⟩
      case measure => simp [intOf]; omega
    · have hke : k = l.length := by omega
      subst hke
      rw [List.take_length] at hr
      go_wp2
      go_ret
      exact ⟨_, rfl, hc.chain hr⟩
theorem dtab_any (t : Tab) (ao2 : Option Addr) (cap2 : Nat) (ao3 : Option Addr) (cap3 : Nat) {B : Nat} {w0 w : World} {v : Value} {L : List UInt8} (hc0 : Cur B w0 w v L) (hl2 : LiesK w B ao2 t.cols) (hl3 : LiesI w B ao3 t.idxs) (hlen : L.length + (tabB t).length ≤ 1000000) :
    Calls Try.prog 51 #[v, .agg #[.int .i64 t.id, .string t.name, .slice ao2 t.cols.length cap2, .slice ao3 t.idxs.length cap3, .int .i64 t.next]] w fun e w' => ∃ v', e = .returned v' ∧ Cur B w0 w' v' (L ++ tabB t) := by
  have hlen2 := hlen
  unfold tabB at hlen2
  simp only [List.length_append, lensB] at hlen2
  have hc := hc0.start (.cells #[.int .i64 t.id, .string t.name, .slice ao2 t.cols.length cap2, .slice ao3 t.idxs.length cap3, .int .i64 t.next] 40)
  have hbx := heap_new w (.cells #[.int .i64 t.id, .string t.name, .slice ao2 t.cols.length cap2, .slice ao3 t.idxs.length cap3, .int .i64 t.next] 40)
  go_enter Try.func51, Try.ntmps51
  go_wp2_with (first
    | (go_at_call 49; refine (dnum_any _ hc (by first | omega | (simp only [List.length_append, lensB]; omega))).mono ?_; rintro e _ ⟨_, rfl, hc⟩; have bx := hc.box hbx (by decide); have c0 := box_cell bx 0 _ rfl; have c1 := box_cell bx 1 _ rfl; have c2 := box_cell bx 2 _ rfl; have c3 := box_cell bx 3 _ rfl; have c4 := box_cell bx 4 _ rfl)
    | (go_at_call 68; refine (dtext_any _ hc (by first | omega | (simp only [List.length_append, lensB]; omega))).mono ?_; rintro e _ ⟨_, rfl, hc⟩; have bx := hc.box hbx (by decide); have c0 := box_cell bx 0 _ rfl; have c1 := box_cell bx 1 _ rfl; have c2 := box_cell bx 2 _ rfl; have c3 := box_cell bx 3 _ rfl; have c4 := box_cell bx 4 _ rfl)
    | (go_at_call 69; refine (dcols_any _ _ t.cols hc ((hl2.below ColAt.fast ((Below.refl B w).alloc hc0.le _)).below ColAt.fast hc.low) (by first | omega | (simp only [List.length_append, lensB]; omega))).mono ?_; rintro e _ ⟨_, rfl, hc⟩; have bx := hc.box hbx (by decide); have c0 := box_cell bx 0 _ rfl; have c1 := box_cell bx 1 _ rfl; have c2 := box_cell bx 2 _ rfl; have c3 := box_cell bx 3 _ rfl; have c4 := box_cell bx 4 _ rfl)
    | (go_at_call 71; refine (didxs_any _ _ t.idxs hc ((hl3.below IdxAt.fast ((Below.refl B w).alloc hc0.le _)).below IdxAt.fast hc.low) (by first | omega | (simp only [List.length_append, lensB]; omega))).mono ?_; rintro e _ ⟨_, rfl, hc⟩; have bx := hc.box hbx (by decide); have c0 := box_cell bx 0 _ rfl; have c1 := box_cell bx 1 _ rfl; have c2 := box_cell bx 2 _ rfl; have c3 := box_cell bx 3 _ rfl; have c4 := box_cell bx 4 _ rfl))
  go_ret
  refine ⟨_, rfl, hc0.join (hc.as ?_)⟩
  unfold tabB
  simp only [List.append_assoc]
theorem dtabs_any (ao : Option Addr) (cap : Nat) (l : List Tab) {B : Nat} {w0 w : World} {v : Value} {L : List UInt8} (hc : Cur B w0 w v L) (hl : LiesT w B ao l) (hlen : L.length + (8 + (l.flatMap tabB).length) ≤ 1000000) :
    Calls Try.prog 50 #[v, .slice ao l.length cap, .func (.func 51) #[] #[]] w fun e w' => ∃ v', e = .returned v' ∧ Cur B w0 w' v' (L ++ (num8 (l.length : Int) ++ l.flatMap tabB)) := by
  have h := dnum_any (l.length : Int) hc.here (by omega)
  have hll : l.length ≤ 1000000 := by
    have := flat_ge tabB l (fun x => by unfold tabB; simp only [List.length_append, num8_len]; omega)
    omega
  go_enter Try.func50, Try.ntmps50
  go_wp2_with (first
    | (go_at_call 49; refine h.mono ?_; rintro e w1 ⟨v1, rfl, h1⟩))
  clear h
  go_loopw [0, 15] (fun x i wr => ∃ k : Nat, k ≤ l.length ∧ i = .int .i64 (k : Int) ∧ Cur B w wr x (L ++ (num8 (l.length : Int) ++ (l.take k).flatMap tabB))) (fun _ i _ => l.length - (intOf i).toNat)
  case atStart => exact ⟨0, by omega, rfl, h1.as (by simp)⟩
  case round =>
    obtain ⟨k, hk, rfl, hr⟩ := hrel
    clear h1
    by_cases hkl : k < l.length
    · obtain ⟨a, rfl, hblk, c0, c1, ⟨ao2, cap2, c2, hl2⟩, ⟨ao3, cap3, c3, hl3⟩, c4⟩ := (hl.below TabAt.fast hr.low) k l[k] (List.getElem?_eq_getElem hkl)
      have hsum := flat_at tabB l k hkl
      have hcat := flat_snoc tabB l k hkl
      have hp := dtab_any l[k] ao2 cap2 ao3 cap3 (hr.alloc (.cells #[.int .i64 l[k].id, .string l[k].name, .slice ao2 l[k].cols.length cap2, .slice ao3 l[k].idxs.length cap3, .int .i64 l[k].next] 40)) (hl2.below ColAt.fast ((Below.refl B _).alloc hr.le _)) (hl3.below IdxAt.fast ((Below.refl B _).alloc hr.le _)) (by first | omega | (simp only [List.length_append, lensB]; omega))
      clear hsum
      generalize l[k] = y at *
      go_wp2_with (first
        | (go_at_call 51; refine hp.mono ?_; rintro e w2 ⟨v2, rfl, h2⟩))
      go_roundw
      case rel => exact ⟨k + 1, by omega, by go_num, h2.as (by rw [hcat]; simp only [List.append_assoc])⟩
      case measure => simp [intOf]; omega
    · have hke : k = l.length := by omega
      subst hke
      rw [List.take_length] at hr
      go_wp2
      go_ret
      exact ⟨_, rfl, hc.chain hr⟩
theorem dsch_any (x : Sch) (ao : Option Addr) (cap : Nat) {B : Nat} {w0 w : World} {v : Value} {L : List UInt8} (hc0 : Cur B w0 w v L) (hl2 : LiesT w B ao x.tabs) (hlen : L.length + (schB x).length ≤ 1000000) :
    Calls Try.prog 30 #[v, .agg #[.int .i64 x.ver, .slice ao x.tabs.length cap, .int .i64 x.next]] w fun e w' => ∃ v', e = .returned v' ∧ Cur B w0 w' v' (L ++ schB x) := by
  have hlen2 := hlen
  unfold schB at hlen2
  simp only [List.length_append, lensB] at hlen2
  have hc := hc0.start (.cells #[.int .i64 x.ver, .slice ao x.tabs.length cap, .int .i64 x.next] 26)
  have hbx := heap_new w (.cells #[.int .i64 x.ver, .slice ao x.tabs.length cap, .int .i64 x.next] 26)
  go_enter Try.func30, Try.ntmps30
  go_wp2_with (first
    | (go_at_call 49; refine (dnum_any _ hc (by first | omega | (simp only [List.length_append, lensB]; omega))).mono ?_; rintro e _ ⟨_, rfl, hc⟩; have bx := hc.box hbx (by decide); have c0 := box_cell bx 0 _ rfl; have c1 := box_cell bx 1 _ rfl; have c2 := box_cell bx 2 _ rfl)
    | (go_at_call 50; refine (dtabs_any _ _ x.tabs hc ((hl2.below TabAt.fast ((Below.refl B w).alloc hc0.le _)).below TabAt.fast hc.low) (by first | omega | (simp only [List.length_append, lensB]; omega))).mono ?_; rintro e _ ⟨_, rfl, hc⟩; have bx := hc.box hbx (by decide); have c0 := box_cell bx 0 _ rfl; have c1 := box_cell bx 1 _ rfl; have c2 := box_cell bx 2 _ rfl))
  go_ret
  refine ⟨_, rfl, hc0.join (hc.as ?_)⟩
  unfold schB
  simp only [List.append_assoc]
end Go.Proofs.Ytndppffcladalaa
