/-
  Joined:
  Contracts: what stands at a key, and between two keys (7.4).
  Contracts: the pairs between two keys (7.4).
  Contracts: the pairs between two keys (7.4), of whatever pages.
  Contracts: the pairs between two keys (7.4), of right pages: what is told is a row of the call's own.
-/
import Derived.Test.YtdmkmhjalcfchaaPPut
import Derived.Test.YtdmkmhjalcfchaaPl
import Derived.WalkMore
namespace Go.Proofs.Ytdmkmhjalcfchaa
open Go.RowKit Num
open scoped Classical
set_option linter.unusedVariables false
set_option maxRecDepth 100000

theorem find_none (ao : Option Addr) (cap : Nat) (k : ByteArray) (w : World) :
    Calls Try.prog 74 #[.slice ao 0 cap, .string k] w fun e w' => e = .returned (.tuple #[.int .i64 0, .int .i64 0, .bool false]) ∧ Below w.heap.size w w' := by
  go_enter Try.func74, Try.ntmps74
  go_wp2
  go_ret3
  exact ⟨rfl, boxes_below _ _ _⟩
/-- 7.4, of whatever pages. -/
def Num.lookA (ps : Pages) (k : ByteArray) [Decidable (RightP ps)] : Option ByteArray := if RightP ps then lookP ps.flatten k else none
def Num.lookS (o : Option ByteArray) : ByteArray := match o with
  | none => ⟨#[]⟩
  | some v => v
def Num.lookB (o : Option ByteArray) : Bool := match o with
  | none => false
  | some _ => true
theorem lookA_yes {ps : Pages} {k : ByteArray} (h : RightP ps) : lookA ps k = lookP ps.flatten k := if_pos h
theorem lookA_no {ps : Pages} {k : ByteArray} (h : ¬ RightP ps) : lookA ps k = none := if_neg h
def Num.scanA (ps : Pages) (lo hi : ByteArray) (n : Int) [Decidable (RightP ps)] : List Pr := if RightP ps then scanL ps.flatten lo hi n else []
theorem scanA_yes {ps : Pages} {lo hi : ByteArray} {n : Int} (h : RightP ps) : scanA ps lo hi n = scanL ps.flatten lo hi n := if_pos h
theorem scanA_no {ps : Pages} {lo hi : ByteArray} {n : Int} (h : ¬ RightP ps) : scanA ps lo hi n = [] := if_neg h
theorem right_calls (ps : Pages) (ao : Option Addr) (cap : Nat) (h900 : ps.length ≤ 4200) (hp4 : ∀ p ∈ ps, p.length ≤ 5000) (hr : RightP ps) (w : World) (hl : LiesPg w w.heap.size ao ps) : Calls Try.prog 73 #[.slice ao ps.length cap] w (fun e w' => e = .returned (.bool true) ∧ Below w.heap.size w w') := by
  have h := right_any ps ao cap (by omega) hp4 w hl
  rw [tru_yes hr] at h
  exact h
end Go.Proofs.Ytdmkmhjalcfchaa
namespace Go.Proofs.Ytdmkmhjalcfchaa
open Go.RowKit Num
open scoped Classical
set_option linter.unusedVariables false
set_option maxRecDepth 100000

theorem addr_add_add (a : Addr) (m n : Nat) : (a.add m).add n = a.add (m + n) := by
  by_cases hm : m = 0
  · subst hm
    rw [addr_zero, Nat.zero_add]
  · unfold Addr.add
    rw [if_neg hm]
    by_cases hn : n = 0
    · subst hn
      rw [if_pos rfl, if_neg (by omega)]
      rfl
    · rw [if_neg hn, if_neg (by omega)]
      congr 1
      simp only
      omega
theorem hi_none {hi : ByteArray} (h : hi.toList = []) (x : Pr) : hiOk hi x = true := by simp [hiOk, h]
theorem hi_below {hi : ByteArray} {x : Pr} (h : Op.bytesLess x.key.toList hi.toList = true) : hiOk hi x = true := by simp [hiOk, h]
theorem hi_above {hi : ByteArray} {x : Pr} (h0 : ¬ hi.toList = []) (h : ¬ Op.bytesLess x.key.toList hi.toList = true) : hiOk hi x = false := by
  unfold hiOk
  rw [Bool.eq_false_iff.2 h]
  simp [h0]
set_option maxRecDepth 100000 in
set_option maxHeartbeats 4000000 in
theorem scan_go (ps : Pages) (hr : RightP ps) (hne : ps ≠ []) (ao : Option Addr) (cap : Nat) (lo hi : ByteArray) (n : Int) (h900 : ps.length ≤ 4200) (hflat : ps.flatten.length ≤ 4200) (w : World) (hl : LiesPg w w.heap.size ao ps) :
    Calls Try.prog 65 #[.slice ao ps.length cap, .string lo, .string hi, .int .i64 n] w fun e w' => ∃ ao' cap', e = .returned (.slice ao' (scanL ps.flatten lo hi n).length cap') ∧ LiesPr w' w'.heap.size ao' (scanL ps.flatten lo hi n) ∧ Below w.heap.size w w' := by
  have hright := right_calls ps ao cap h900 (fun p hp => by have := hr.1 p hp; omega) hr w hl
  have hof := of_lt lo hne
  have hp0 : ps[ofP ps lo]? = some (ps[ofP ps lo]'hof) := List.getElem?_eq_getElem hof
  generalize (ps[ofP ps lo]'hof) = p0 at *
  have hfind := fun w2 (hb : Below w.heap.size w w2) => find_any ps hr ao cap lo (by omega) p0 hp0 w2 (liesPg_next hl hb hb.size)
  have HS0 : Hid (ScanS ps lo hi n (ofP ps lo) (cntK p0 lo) []) := scan_start hr hp0 hi n
  have hj0 := cntK_le p0 lo
  have HJ0 : Hid (∀ p, ps[ofP ps lo]? = some p → cntK p0 lo ≤ p.length) := fun p hp => by
    rw [hp0] at hp
    cases hp
    exact hj0
  have HR : Hid (RightP ps) := hr
  clear hr
  generalize ofP ps lo = M at *
  generalize cntK p0 lo = J at *
  generalize hasK p0 lo = G at *
  generalize hout : scanL ps.flatten lo hi n = out at *
  have HOUT : Hid (scanL ps.flatten lo hi n = out) := hout
  clear hout hp0 hj0
  go_enter Try.func65, Try.ntmps65
  go_wp2
  go_step3
  go_wp2_with (first
    | (go_at_call 73; refine hright.mono ?_; rintro e w1 ⟨rfl, hb1⟩)
    | (go_at_call 74; refine (hfind w1 hb1).mono ?_; rintro e w3 ⟨rfl, hb3⟩))
  go_step3
  go_wp2
  have hbw := below_next hb1 (Nat.le_refl _) hb3
  clear hright hfind hb1 hb3
  go_loopw [9, 10, 11] (fun v i j wr => ∃ (I Jx : Nat) (acc : List Pr), I ≤ ps.length ∧ i = .int .i64 (I : Int) ∧ j = .int .i64 (Jx : Int) ∧ wr.ownsRow w.heap.size 52 2 v acc.length (prCells acc) ∧ Below w.heap.size w wr ∧ Hid (ScanS ps lo hi n I Jx acc ∧ ∀ p, ps[I]? = some p → Jx ≤ p.length)) (fun _ i _ _ => ps.length - (intOf i).toNat)
  case atStart => exact ⟨M, J, [], by omega, rfl, rfl, World.ownsRow_nil _ _ _ _, hbw, HS0.out, HJ0.out⟩
  case round =>
    obtain ⟨I, Jx, acc, hI, rfl, rfl, hown, hbel, HS⟩ := hrel
    have hsz := hbel.size
    clear hbw
    by_cases hIl : I < ps.length
    · have HP : Hid (ps[I]? = some ps[I]) := List.getElem?_eq_getElem hIl
      have hplen := HR.out.1 ps[I] (List.getElem_mem hIl)
      have hJl := HS.out.2 ps[I] HP.out
      obtain ⟨a, rfl, hblk, bo, c, c0w, hl2, hcap⟩ := hl I ps[I] HP.out
      rw [Nat.mul_one] at c0w
      have c0 := (hbel.cell (cell_lt c0w)).trans c0w
      clear c0w
      generalize ps[I] = p at *
      have HS1 : Hid (ScanS ps lo hi n I Jx acc) := HS.out.1
      clear HS
      by_cases hcJ : c = Jx
      · have hJp : Jx = p.length := by omega
        have HS2 : Hid (ScanS ps lo hi n (I + 1) 0 acc) := scan_page (hJp ▸ HS1.out) HP.out
        have hz : p.length - Jx = 0 := by omega
        have hJc : (Jx : Int) ≤ (p.length : Int) := by omega
        obtain ⟨v, hv⟩ : ∃ v : Nat, v = Jx := ⟨_, rfl⟩
        go_wp2
        rename World => W0
        go_loopw [9, 38] (fun v i wr => v = u9 ∧ i = .int .i64 0 ∧ wr = W0) (fun _ i _ => 0)
        case atStart => exact ⟨rfl, rfl, rfl⟩
        case round =>
          obtain ⟨rfl, rfl, rfl⟩ := hrel
          go_wp2
          go_roundw
          case rel => exact ⟨I + 1, 0, acc, by omega, by go_num, rfl, hown, hbel, HS2.out, fun _ _ => Nat.zero_le _⟩
          case measure => simp [intOf]; omega
      · have hJc : (Jx : Int) ≤ (p.length : Int) := by omega
        obtain ⟨a2, rfl⟩ : ∃ a2, bo = some a2 := by
          obtain ⟨a2, e, _⟩ := hl2 0 (p[0]'(by omega)) (List.getElem?_eq_getElem _)
          exact ⟨a2, e⟩
        have hflat2 : ∀ (i j : Nat) acc, ScanS ps lo hi n i j acc → acc.length ≤ 4200 := by
          intro i j acc h
          obtain ⟨A, e, _⟩ := h.split
          rw [e, List.length_append, List.length_append] at hflat
          omega
        have hcast : ((p.length - Jx : Nat) : Int) = (p.length : Int) - (Jx : Int) := by omega
        generalize hL : p.length - Jx = L at *
        go_wp2
        rename World => W0
        go_loopw [9, 38] (fun v i wr => ∃ (t : Nat) (acc : List Pr), t ≤ L ∧ i = .int .i64 (t : Int) ∧ wr.ownsRow w.heap.size 52 2 v acc.length (prCells acc) ∧ Below w.heap.size w wr ∧ Hid (ScanS ps lo hi n I (Jx + t) acc)) (fun _ i _ => L - (intOf i).toNat)
        case atStart => exact ⟨0, acc, by omega, rfl, hown, hbel, HS1.out⟩
        case round =>
          obtain ⟨t, acc2, ht, rfl, hown2, hbel2, HT⟩ := hrel
          have hsz2 := hbel2.size
          have hacc := hflat2 _ _ _ HT.out
          clear hown HS1 hbel
          by_cases htl : t < L
          · have htl2 : (t : Int) < (p.length : Int) - (Jx : Int) := by omega
            have HX : Hid (p[Jx + t]? = some (p[Jx + t]'(by omega))) := List.getElem?_eq_getElem _
            obtain ⟨a3, e3, _, e0, e1⟩ := (hl2.below PrAt.fast hbel2) (Jx + t) _ HX.out
            cases e3
            generalize (p[Jx + t]'(by omega)) = x at *
            rw [show a2.add ((Jx + t) * 2) = (a2.add (Jx * 2)).add (t * 2) by rw [addr_add_add, Nat.add_mul]] at e0 e1
            by_cases hn : n ≤ (acc2.length : Int)
            · have he := scan_full HT.out hn
              rw [HOUT.out] at he
              subst he
              obtain ⟨ao', cap', rfl, hl', _⟩ := own_lies (hown2.alloc (.cells #[.string x.key, .string x.val] 52))
              clear HT HS0 HJ0 HOUT HP HX HR
              go_wp2
              try rw [Exit.noGoto_ret]
              go_ret
              exact ⟨ao', cap', rfl, hl', hbel2.alloc hsz2 _⟩
            · have hn2 : (acc2.length : Int) < n := by omega
              by_cases hhi : hi = ⟨#[]⟩
              · have hq : hi.toList = [] := by rw [hhi, Lib.toList_data]
                have HS3 : Hid (ScanS ps lo hi n I (Jx + (t + 1)) (acc2 ++ [x])) := scan_more HT.out HP.out HX.out hn2 (hi_none hq x)
                clear hhi
                obtain ⟨ao2, cap2, rfl, _, _⟩ := own_lies hown2
                clear HT HS0 HJ0
                go_wp2_with (first
                  | (at_builtin; refine wpList_appX _ rfl _ _ 22 rfl 52 2 32 Try.underlying22 Try.infoPr w.heap.size _ acc2.length (prCells acc2) rfl ((hown2.alloc _).alloc _) ⟨wr.heap.size + 1, 0, none⟩ 1 [.string x.key, .string x.val] rfl rfl (one2 x) (new_cells _ _ [.string x.key, .string x.val] _ (by simp)) ⟨by omega, by decide, by decide, rfl⟩ (by simp; omega) ?_; intro v3 w3 hown3 hbel3 hst3))
                go_roundw
                case rel => exact ⟨t + 1, acc2 ++ [x], by omega, by go_num, by rw [List.length_append, prCells_append]; exact hown3, ((hbel2.alloc hsz2 _).alloc (by simp; omega) _).trans hbel3, HS3.out⟩
                case measure => simp [intOf]; omega
              · have hq : ¬ hi.toList = [] := fun e => hhi (ByteArray.ext (Array.ext' (by rw [← Lib.toList_data]; exact e)))
                have hq2 : hi.toList.isEmpty = false := by
                  cases h : hi.toList with
                  | nil => exact absurd h hq
                  | cons a l => rfl
                by_cases hover : Op.bytesLess x.key.toList hi.toList = true
                · have HS3 : Hid (ScanS ps lo hi n I (Jx + (t + 1)) (acc2 ++ [x])) := scan_more HT.out HP.out HX.out hn2 (hi_below hover)
                  clear hhi
                  obtain ⟨ao2, cap2, rfl, _, _⟩ := own_lies hown2
                  clear HT HS0 HJ0
                  go_wp2_with (first
                    | (at_builtin; refine wpList_appX _ rfl _ _ 22 rfl 52 2 32 Try.underlying22 Try.infoPr w.heap.size _ acc2.length (prCells acc2) rfl ((hown2.alloc _).alloc _) ⟨wr.heap.size + 1, 0, none⟩ 1 [.string x.key, .string x.val] rfl rfl (one2 x) (new_cells _ _ [.string x.key, .string x.val] _ (by simp)) ⟨by omega, by decide, by decide, rfl⟩ (by simp; omega) ?_; intro v3 w3 hown3 hbel3 hst3))
                  go_roundw
                  case rel => exact ⟨t + 1, acc2 ++ [x], by omega, by go_num, by rw [List.length_append, prCells_append]; exact hown3, ((hbel2.alloc hsz2 _).alloc (by simp; omega) _).trans hbel3, HS3.out⟩
                  case measure => simp [intOf]; omega
                · have h2 : Op.bytesLess x.key.toList hi.toList = false := Bool.eq_false_iff.2 hover
                  have he := scan_over HR.out HT.out HP.out HX.out (hi_above hq hover)
                  rw [HOUT.out] at he
                  subst he
                  obtain ⟨ao', cap', rfl, hl', _⟩ := own_lies (hown2.alloc (.cells #[.string x.key, .string x.val] 52))
                  clear HT HS0 HJ0 HOUT HP HX HR hover hhi
                  go_wp2
                  try rw [Exit.noGoto_ret]
                  go_ret
                  exact ⟨ao', cap', rfl, hl', hbel2.alloc hsz2 _⟩
          · have htL : t = L := by omega
            have HS2 : Hid (ScanS ps lo hi n (I + 1) 0 acc2) := scan_page (by have := HT.out; rw [show Jx + t = p.length by omega] at this; exact this) HP.out
            clear HT
            subst htL
            go_wp2
            go_roundw
            case rel => exact ⟨I + 1, 0, acc2, by omega, by go_num, rfl, hown2, hbel2, HS2.out, fun _ _ => Nat.zero_le _⟩
            case measure => simp [intOf]; omega
    · obtain rfl : I = ps.length := by omega
      have he := scan_end HS.out.1 (Nat.le_refl _)
      rw [HOUT.out] at he
      subst he
      obtain ⟨ao', cap', rfl, hl', _⟩ := own_lies hown
      go_wp2
      try rw [Exit.noGoto_ret]
      go_ret
      exact ⟨ao', cap', rfl, hl', hbel⟩
end Go.Proofs.Ytdmkmhjalcfchaa
namespace Go.Proofs.Ytdmkmhjalcfchaa
open Go.RowKit Num
open scoped Classical
set_option linter.unusedVariables false
set_option maxRecDepth 100000

set_option maxRecDepth 100000 in
set_option maxHeartbeats 1000000 in
theorem scan_any (ps : Pages) (ao : Option Addr) (cap : Nat) (lo hi : ByteArray) (n : Int) (h900 : ps.length ≤ 4200) (hp4 : ∀ p ∈ ps, p.length ≤ 5000) (hflat : RightP ps → ps.flatten.length ≤ 4200) (w : World) (hl : LiesPg w w.heap.size ao ps) :
    Calls Try.prog 65 #[.slice ao ps.length cap, .string lo, .string hi, .int .i64 n] w fun e w' => ∃ ao' cap', e = .returned (.slice ao' (scanA ps lo hi n).length cap') ∧ LiesPr w' w'.heap.size ao' (scanA ps lo hi n) ∧ Below w.heap.size w w' := by
  by_cases hr : RightP ps
  · rw [scanA_yes hr]
    by_cases hne : ps = []
    · subst hne
      have hright := right_calls [] ao cap (by simp) (by simp) hr w hl
      rw [show scanL (List.flatten []) lo hi n = [] by simp [scanL]]
      clear hr hflat
      go_enter Try.func65, Try.ntmps65
      go_wp2
      go_step3
      go_wp2_with (first
        | (go_at_call 73; refine hright.mono ?_; rintro e w1 ⟨rfl, hb1⟩)
        | (go_at_call 74; refine (find_none ao cap lo w1).mono ?_; rintro e w3 ⟨rfl, hb3⟩))
      go_step3
      go_wp2
      go_loopw [9, 10, 11] (fun v i j wr => v = .slice none 0 0 ∧ i = .int .i64 0 ∧ j = .int .i64 0 ∧ wr = w3) (fun _ i _ _ => 0)
      case atStart => exact ⟨rfl, rfl, rfl, rfl⟩
      case round =>
        obtain ⟨rfl, rfl, rfl, rfl⟩ := hrel
        go_wp2
        try rw [Exit.noGoto_ret]
        go_ret
        exact ⟨none, 0, rfl, fun i x hx => by simp at hx, below_next hb1 (Nat.le_refl _) hb3⟩
    · exact scan_go ps hr hne ao cap lo hi n h900 (hflat hr) w hl
  · have hright := right_any ps ao cap (by omega) hp4 w hl
    rw [tru_no hr] at hright
    rw [scanA_no hr]
    clear hr hflat
    go_enter Try.func65, Try.ntmps65
    go_wp2
    go_step3
    go_wp2_with (first
      | (go_at_call 73; refine hright.mono ?_; rintro e w1 ⟨rfl, hb1⟩))
    try rw [Exit.noGoto_ret]
    go_ret
    exact ⟨none, 0, rfl, fun i x hx => by simp at hx, hb1⟩
end Go.Proofs.Ytdmkmhjalcfchaa
namespace Go.Proofs.Ytdmkmhjalcfchaa
open Go.RowKit Num
open scoped Classical
set_option linter.unusedVariables false
set_option maxRecDepth 100000

set_option maxRecDepth 100000 in
set_option maxHeartbeats 4000000 in
theorem scan_goO (ps : Pages) (hr : RightP ps) (hne : ps ≠ []) (ao : Option Addr) (cap : Nat) (lo hi : ByteArray) (n : Int) (h900 : ps.length ≤ 4200) (hflat : ps.flatten.length ≤ 4200) (w : World) (hl : LiesPg w w.heap.size ao ps) :
    Calls Try.prog 65 #[.slice ao ps.length cap, .string lo, .string hi, .int .i64 n] w fun e w' => ∃ ao' cap', e = .returned (.slice ao' (scanL ps.flatten lo hi n).length cap') ∧ w'.ownsRow w.heap.size 52 2 (.slice ao' (scanL ps.flatten lo hi n).length cap') (scanL ps.flatten lo hi n).length (prCells (scanL ps.flatten lo hi n)) ∧ Below w.heap.size w w' := by
  have hright := right_calls ps ao cap h900 (fun p hp => by have := hr.1 p hp; omega) hr w hl
  have hof := of_lt lo hne
  have hp0 : ps[ofP ps lo]? = some (ps[ofP ps lo]'hof) := List.getElem?_eq_getElem hof
  generalize (ps[ofP ps lo]'hof) = p0 at *
  have hfind := fun w2 (hb : Below w.heap.size w w2) => find_any ps hr ao cap lo (by omega) p0 hp0 w2 (liesPg_next hl hb hb.size)
  have HS0 : Hid (ScanS ps lo hi n (ofP ps lo) (cntK p0 lo) []) := scan_start hr hp0 hi n
  have hj0 := cntK_le p0 lo
  have HJ0 : Hid (∀ p, ps[ofP ps lo]? = some p → cntK p0 lo ≤ p.length) := fun p hp => by
    rw [hp0] at hp
    cases hp
    exact hj0
  have HR : Hid (RightP ps) := hr
  clear hr
  generalize ofP ps lo = M at *
  generalize cntK p0 lo = J at *
  generalize hasK p0 lo = G at *
  generalize hout : scanL ps.flatten lo hi n = out at *
  have HOUT : Hid (scanL ps.flatten lo hi n = out) := hout
  clear hout hp0 hj0
  go_enter Try.func65, Try.ntmps65
  go_wp2
  go_step3
  go_wp2_with (first
    | (go_at_call 73; refine hright.mono ?_; rintro e w1 ⟨rfl, hb1⟩)
    | (go_at_call 74; refine (hfind w1 hb1).mono ?_; rintro e w3 ⟨rfl, hb3⟩))
  go_step3
  go_wp2
  have hbw := below_next hb1 (Nat.le_refl _) hb3
  clear hright hfind hb1 hb3
  go_loopw [9, 10, 11] (fun v i j wr => ∃ (I Jx : Nat) (acc : List Pr), I ≤ ps.length ∧ i = .int .i64 (I : Int) ∧ j = .int .i64 (Jx : Int) ∧ wr.ownsRow w.heap.size 52 2 v acc.length (prCells acc) ∧ Below w.heap.size w wr ∧ Hid (ScanS ps lo hi n I Jx acc ∧ ∀ p, ps[I]? = some p → Jx ≤ p.length)) (fun _ i _ _ => ps.length - (intOf i).toNat)
  case atStart => exact ⟨M, J, [], by omega, rfl, rfl, World.ownsRow_nil _ _ _ _, hbw, HS0.out, HJ0.out⟩
  case round =>
    obtain ⟨I, Jx, acc, hI, rfl, rfl, hown, hbel, HS⟩ := hrel
    have hsz := hbel.size
    clear hbw
    by_cases hIl : I < ps.length
    · have HP : Hid (ps[I]? = some ps[I]) := List.getElem?_eq_getElem hIl
      have hplen := HR.out.1 ps[I] (List.getElem_mem hIl)
      have hJl := HS.out.2 ps[I] HP.out
      obtain ⟨a, rfl, hblk, bo, c, c0w, hl2, hcap⟩ := hl I ps[I] HP.out
      rw [Nat.mul_one] at c0w
      have c0 := (hbel.cell (cell_lt c0w)).trans c0w
      clear c0w
      generalize ps[I] = p at *
      have HS1 : Hid (ScanS ps lo hi n I Jx acc) := HS.out.1
      clear HS
      by_cases hcJ : c = Jx
      · have hJp : Jx = p.length := by omega
        have HS2 : Hid (ScanS ps lo hi n (I + 1) 0 acc) := scan_page (hJp ▸ HS1.out) HP.out
        have hz : p.length - Jx = 0 := by omega
        have hJc : (Jx : Int) ≤ (p.length : Int) := by omega
        obtain ⟨v, hv⟩ : ∃ v : Nat, v = Jx := ⟨_, rfl⟩
        go_wp2
        rename World => W0
        go_loopw [9, 38] (fun v i wr => v = u9 ∧ i = .int .i64 0 ∧ wr = W0) (fun _ i _ => 0)
        case atStart => exact ⟨rfl, rfl, rfl⟩
        case round =>
          obtain ⟨rfl, rfl, rfl⟩ := hrel
          go_wp2
          go_roundw
          case rel => exact ⟨I + 1, 0, acc, by omega, by go_num, rfl, hown, hbel, HS2.out, fun _ _ => Nat.zero_le _⟩
          case measure => simp [intOf]; omega
      · have hJc : (Jx : Int) ≤ (p.length : Int) := by omega
        obtain ⟨a2, rfl⟩ : ∃ a2, bo = some a2 := by
          obtain ⟨a2, e, _⟩ := hl2 0 (p[0]'(by omega)) (List.getElem?_eq_getElem _)
          exact ⟨a2, e⟩
        have hflat2 : ∀ (i j : Nat) acc, ScanS ps lo hi n i j acc → acc.length ≤ 4200 := by
          intro i j acc h
          obtain ⟨A, e, _⟩ := h.split
          rw [e, List.length_append, List.length_append] at hflat
          omega
        have hcast : ((p.length - Jx : Nat) : Int) = (p.length : Int) - (Jx : Int) := by omega
        generalize hL : p.length - Jx = L at *
        go_wp2
        rename World => W0
        go_loopw [9, 38] (fun v i wr => ∃ (t : Nat) (acc : List Pr), t ≤ L ∧ i = .int .i64 (t : Int) ∧ wr.ownsRow w.heap.size 52 2 v acc.length (prCells acc) ∧ Below w.heap.size w wr ∧ Hid (ScanS ps lo hi n I (Jx + t) acc)) (fun _ i _ => L - (intOf i).toNat)
        case atStart => exact ⟨0, acc, by omega, rfl, hown, hbel, HS1.out⟩
        case round =>
          obtain ⟨t, acc2, ht, rfl, hown2, hbel2, HT⟩ := hrel
          have hsz2 := hbel2.size
          have hacc := hflat2 _ _ _ HT.out
          clear hown HS1 hbel
          by_cases htl : t < L
          · have htl2 : (t : Int) < (p.length : Int) - (Jx : Int) := by omega
            have HX : Hid (p[Jx + t]? = some (p[Jx + t]'(by omega))) := List.getElem?_eq_getElem _
            obtain ⟨a3, e3, _, e0, e1⟩ := (hl2.below PrAt.fast hbel2) (Jx + t) _ HX.out
            cases e3
            generalize (p[Jx + t]'(by omega)) = x at *
            rw [show a2.add ((Jx + t) * 2) = (a2.add (Jx * 2)).add (t * 2) by rw [addr_add_add, Nat.add_mul]] at e0 e1
            by_cases hn : n ≤ (acc2.length : Int)
            · have he := scan_full HT.out hn
              rw [HOUT.out] at he
              subst he
              have hOO := (hown2.alloc (.cells #[.string x.key, .string x.val] 52))
              obtain ⟨ao', cap', rfl, _, _⟩ := own_lies hOO
              clear HT HS0 HJ0 HOUT HP HX HR
              go_wp2
              try rw [Exit.noGoto_ret]
              go_ret
              exact ⟨ao', cap', rfl, hOO, hbel2.alloc hsz2 _⟩
            · have hn2 : (acc2.length : Int) < n := by omega
              by_cases hhi : hi = ⟨#[]⟩
              · have hq : hi.toList = [] := by rw [hhi, Lib.toList_data]
                have HS3 : Hid (ScanS ps lo hi n I (Jx + (t + 1)) (acc2 ++ [x])) := scan_more HT.out HP.out HX.out hn2 (hi_none hq x)
                clear hhi
                obtain ⟨ao2, cap2, rfl, _, _⟩ := own_lies hown2
                clear HT HS0 HJ0
                go_wp2_with (first
                  | (at_builtin; refine wpList_appX _ rfl _ _ 22 rfl 52 2 32 Try.underlying22 Try.infoPr w.heap.size _ acc2.length (prCells acc2) rfl ((hown2.alloc _).alloc _) ⟨wr.heap.size + 1, 0, none⟩ 1 [.string x.key, .string x.val] rfl rfl (one2 x) (new_cells _ _ [.string x.key, .string x.val] _ (by simp)) ⟨by omega, by decide, by decide, rfl⟩ (by simp; omega) ?_; intro v3 w3 hown3 hbel3 hst3))
                go_roundw
                case rel => exact ⟨t + 1, acc2 ++ [x], by omega, by go_num, by rw [List.length_append, prCells_append]; exact hown3, ((hbel2.alloc hsz2 _).alloc (by simp; omega) _).trans hbel3, HS3.out⟩
                case measure => simp [intOf]; omega
              · have hq : ¬ hi.toList = [] := fun e => hhi (ByteArray.ext (Array.ext' (by rw [← Lib.toList_data]; exact e)))
                have hq2 : hi.toList.isEmpty = false := by
                  cases h : hi.toList with
                  | nil => exact absurd h hq
                  | cons a l => rfl
                by_cases hover : Op.bytesLess x.key.toList hi.toList = true
                · have HS3 : Hid (ScanS ps lo hi n I (Jx + (t + 1)) (acc2 ++ [x])) := scan_more HT.out HP.out HX.out hn2 (hi_below hover)
                  clear hhi
                  obtain ⟨ao2, cap2, rfl, _, _⟩ := own_lies hown2
                  clear HT HS0 HJ0
                  go_wp2_with (first
                    | (at_builtin; refine wpList_appX _ rfl _ _ 22 rfl 52 2 32 Try.underlying22 Try.infoPr w.heap.size _ acc2.length (prCells acc2) rfl ((hown2.alloc _).alloc _) ⟨wr.heap.size + 1, 0, none⟩ 1 [.string x.key, .string x.val] rfl rfl (one2 x) (new_cells _ _ [.string x.key, .string x.val] _ (by simp)) ⟨by omega, by decide, by decide, rfl⟩ (by simp; omega) ?_; intro v3 w3 hown3 hbel3 hst3))
                  go_roundw
                  case rel => exact ⟨t + 1, acc2 ++ [x], by omega, by go_num, by rw [List.length_append, prCells_append]; exact hown3, ((hbel2.alloc hsz2 _).alloc (by simp; omega) _).trans hbel3, HS3.out⟩
                  case measure => simp [intOf]; omega
                · have h2 : Op.bytesLess x.key.toList hi.toList = false := Bool.eq_false_iff.2 hover
                  have he := scan_over HR.out HT.out HP.out HX.out (hi_above hq hover)
                  rw [HOUT.out] at he
                  subst he
                  have hOO := (hown2.alloc (.cells #[.string x.key, .string x.val] 52))
                  obtain ⟨ao', cap', rfl, _, _⟩ := own_lies hOO
                  clear HT HS0 HJ0 HOUT HP HX HR hover hhi
                  go_wp2
                  try rw [Exit.noGoto_ret]
                  go_ret
                  exact ⟨ao', cap', rfl, hOO, hbel2.alloc hsz2 _⟩
          · have htL : t = L := by omega
            have HS2 : Hid (ScanS ps lo hi n (I + 1) 0 acc2) := scan_page (by have := HT.out; rw [show Jx + t = p.length by omega] at this; exact this) HP.out
            clear HT
            subst htL
            go_wp2
            go_roundw
            case rel => exact ⟨I + 1, 0, acc2, by omega, by go_num, rfl, hown2, hbel2, HS2.out, fun _ _ => Nat.zero_le _⟩
            case measure => simp [intOf]; omega
    · obtain rfl : I = ps.length := by omega
      have he := scan_end HS.out.1 (Nat.le_refl _)
      rw [HOUT.out] at he
      subst he
      have hOO := hown
      obtain ⟨ao', cap', rfl, _, _⟩ := own_lies hOO
      go_wp2
      try rw [Exit.noGoto_ret]
      go_ret
      exact ⟨ao', cap', rfl, hOO, hbel⟩
set_option maxRecDepth 100000 in
set_option maxHeartbeats 1000000 in
theorem scan_own (ps : Pages) (hr : RightP ps) (ao : Option Addr) (cap : Nat) (lo hi : ByteArray) (n : Int) (h900 : ps.length ≤ 4200) (hflat : ps.flatten.length ≤ 4200) (w : World) (hl : LiesPg w w.heap.size ao ps) :
    Calls Try.prog 65 #[.slice ao ps.length cap, .string lo, .string hi, .int .i64 n] w fun e w' => ∃ ao' cap', e = .returned (.slice ao' (scanL ps.flatten lo hi n).length cap') ∧ w'.ownsRow w.heap.size 52 2 (.slice ao' (scanL ps.flatten lo hi n).length cap') (scanL ps.flatten lo hi n).length (prCells (scanL ps.flatten lo hi n)) ∧ Below w.heap.size w w' := by
  by_cases hne : ps = []
  · subst hne
    have hright := right_calls [] ao cap (by simp) (by simp) hr w hl
    rw [show scanL (List.flatten []) lo hi n = [] by simp [scanL]]
    clear hr hflat
    go_enter Try.func65, Try.ntmps65
    go_wp2
    go_step3
    go_wp2_with (first
      | (go_at_call 73; refine hright.mono ?_; rintro e w1 ⟨rfl, hb1⟩)
      | (go_at_call 74; refine (find_none ao cap lo w1).mono ?_; rintro e w3 ⟨rfl, hb3⟩))
    go_step3
    go_wp2
    go_loopw [9, 10, 11] (fun v i j wr => v = .slice none 0 0 ∧ i = .int .i64 0 ∧ j = .int .i64 0 ∧ wr = w3) (fun _ i _ _ => 0)
    case atStart => exact ⟨rfl, rfl, rfl, rfl⟩
    case round =>
      obtain ⟨rfl, rfl, rfl, rfl⟩ := hrel
      go_wp2
      try rw [Exit.noGoto_ret]
      go_ret
      exact ⟨none, 0, rfl, World.ownsRow_nil _ _ _ _, below_next hb1 (Nat.le_refl _) hb3⟩
  · exact scan_goO ps hr hne ao cap lo hi n h900 hflat w hl
end Go.Proofs.Ytdmkmhjalcfchaa
