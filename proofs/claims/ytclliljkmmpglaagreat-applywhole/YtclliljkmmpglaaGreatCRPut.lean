/-
  Contracts: the document's own bytes of a command, or that it is refused (13.2).
-/
import Derived.Test.YtclliljkmmpglaaGreatCWri
import Derived.Test.YtclliljkmmpglaaGreatCPut
import Derived.Deep.CutBlock
namespace Go.Proofs.YtclliljkmmpglaaGreat
open Go.RowKit Num
open scoped Classical
set_option linter.unusedVariables false
set_option maxRecDepth 100000

theorem Num.Wri.ne {p B : Nat} {w0 w : World} {L : List UInt8} (h : Wri p B w0 w L) : w.heap.size ≠ p := by
  obtain ⟨v, hb, _⟩ := h.box
  have := (Array.getElem?_eq_some_iff.1 hb).1
  omega
theorem own_len {w : World} {B e size n : Nat} {v : Value} {xs : List Value} (h : w.ownsRow B e size v n xs) : ∃ ao cap, v = .slice ao n cap := by
  rcases h.2 with ⟨hv, h0⟩ | ⟨g, cap, cur, hv, _⟩
  · exact ⟨none, 0, by rw [hv, h0]⟩
  · exact ⟨_, cap, hv⟩
/-- What is told of a command that may be. -/
def Num.putR (c : Cmd) : Value := if (cmdB c).length ≤ 19996 then .tuple #[.string (str (sealL (cmdB c))), .int .i64 0] else .tuple #[.string ⟨#[]⟩, .int .i64 2]
set_option maxRecDepth 100000 in
set_option maxHeartbeats 2000000 in
theorem refPut_no (c : Cmd) (hx : ¬ CmdOk c) (hin : CmdIn c) (s : Cs) (w : World) (hl : LiesC w w.heap.size s c) :
    Calls Tryz.prog 29 #[.agg #[.int .i64 c.kind, .int .i64 c.client, .int .i64 c.seq, .int .i64 c.snap, .slice s.ko c.keys.length s.kc, .slice s.ro c.rngs.length s.rc, .slice s.wo c.wrts.length s.wc, .int .i64 c.dead, .int .i64 c.aft, .int .i64 c.held, .string c.text, .int .i64 c.code, .slice s.xo c.rows.length s.xc]] w fun e w' => e = .returned (.tuple #[.string ⟨#[]⟩, .int .i64 1]) ∧ Below w.heap.size w w' := by
  have hla := liesC_alloc hl (.cells #[.int .i64 c.kind, .int .i64 c.client, .int .i64 c.seq, .int .i64 c.snap, .slice s.ko c.keys.length s.kc, .slice s.ro c.rngs.length s.rc, .slice s.wo c.wrts.length s.wc, .int .i64 c.dead, .int .i64 c.aft, .int .i64 c.held, .string c.text, .int .i64 c.code, .slice s.xo c.rows.length s.xc] 41)
  have hm := refMay_cmd c hin s _ hla
  rw [tru_no hx] at hm
  clear hx hl hla
  go_enter Tryz.func29, Tryz.ntmps29
  go_wp2_with (first
    | (go_at_call 27; refine hm.mono ?_; rintro e w5 ⟨rfl, hb5⟩))
  go_ret2
  exact ⟨rfl, below_box0 hb5⟩
theorem wri_new (w : World) : Wri w.heap.size w.heap.size (w.alloc (.cells #[.slice none 0 0] 138)) (w.alloc (.cells #[.slice none 0 0] 138)) [] :=
  ⟨⟨_, heap_new w _, World.ownsRow_nil _ _ _ _⟩, Below.refl _ _, Stay.refl _ _ _, by simp, Nat.le_refl _⟩
set_option maxRecDepth 100000 in
set_option maxHeartbeats 8000000 in
theorem refPut_yes (c : Cmd) (hx : CmdOk c) (hin : CmdIn c) (hlen : (cmdB c).length ≤ 800000) (s : Cs) (w : World) (hl : LiesC w w.heap.size s c) :
    Calls Tryz.prog 29 #[.agg #[.int .i64 c.kind, .int .i64 c.client, .int .i64 c.seq, .int .i64 c.snap, .slice s.ko c.keys.length s.kc, .slice s.ro c.rngs.length s.rc, .slice s.wo c.wrts.length s.wc, .int .i64 c.dead, .int .i64 c.aft, .int .i64 c.held, .string c.text, .int .i64 c.code, .slice s.xo c.rows.length s.xc]] w fun e w' => e = .returned (putR c) ∧ Below w.heap.size w w' := by
  have hbx := heap_new w (.cells #[.int .i64 c.kind, .int .i64 c.client, .int .i64 c.seq, .int .i64 c.snap, .slice s.ko c.keys.length s.kc, .slice s.ro c.rngs.length s.rc, .slice s.wo c.wrts.length s.wc, .int .i64 c.dead, .int .i64 c.aft, .int .i64 c.held, .string c.text, .int .i64 c.code, .slice s.xo c.rows.length s.xc] 41)
  have hla := liesC_alloc hl (.cells #[.int .i64 c.kind, .int .i64 c.client, .int .i64 c.seq, .int .i64 c.snap, .slice s.ko c.keys.length s.kc, .slice s.ro c.rngs.length s.rc, .slice s.wo c.wrts.length s.wc, .int .i64 c.dead, .int .i64 c.aft, .int .i64 c.held, .string c.text, .int .i64 c.code, .slice s.xo c.rows.length s.xc] 41)
  have hm := refMay_cmd c hin s _ hla
  rw [tru_yes hx] at hm
  have q1 := hx.keys.1
  have q2 := hx.rngs.1
  have q3 := hx.wrts.1
  have q4 := hx.rows.1
  have q5 : ∀ y ∈ c.rows, y.length ≤ 8 := fun y hy => by have := (hx.rows.2 y hy).1; omega
  have hz : (str (cmdB c)).size ≤ 900000 := by rw [str_size]; omega
  have hs := refSeal_any (str (cmdB c)) hz
  rw [str_data] at hs
  have HP : Hid ((cmdB c).length ≤ 19996 → putR c = .tuple #[.string (str (sealL (cmdB c))), .int .i64 0]) := fun h => if_pos h
  have HQ : Hid (¬ (cmdB c).length ≤ 19996 → putR c = .tuple #[.string ⟨#[]⟩, .int .i64 2]) := fun h => if_neg h
  have hlen2 := hlen
  unfold cmdB lstB at hlen2
  simp only [List.length_append, lensB] at hlen2
  clear hx hl hz
  go_enter Tryz.func29, Tryz.ntmps29
  go_upto_block 0 with (first
    | (go_at_call 27; refine hm.mono ?_; rintro e w5 ⟨rfl, hb5⟩; have b5 := below_box hb5 hbx; have hbx6 := alloc_box (.cells #[.slice none 0 0] 138) b5; have hq : w.heap.size ≠ w5.heap.size := by { have := hb5.size; simp at this; omega }; have hl5 := liesC_next hla hb5; have hc := wri_new w5; have bx := hbx6; have c0 := box_cell bx 0 _ rfl; have c1 := box_cell bx 1 _ rfl; have c2 := box_cell bx 2 _ rfl; have c3 := box_cell bx 3 _ rfl; have c4 := box_cell bx 4 _ rfl; have c5 := box_cell bx 5 _ rfl; have c6 := box_cell bx 6 _ rfl; have c7 := box_cell bx 7 _ rfl; have c8 := box_cell bx 8 _ rfl; have c9 := box_cell bx 9 _ rfl; have c10 := box_cell bx 10 _ rfl; have c11 := box_cell bx 11 _ rfl; have c12 := box_cell bx 12 _ rfl)
    | (go_at_call 58; refine (wNum_any hc _ (by first | omega | (simp only [List.length_append]; omega) | (simp only [List.length_append, lensB]; omega))).mono ?_; rintro e _ ⟨rfl, hc⟩; have bx := hc.keep hbx6 (by decide) hq; have c0 := box_cell bx 0 _ rfl; have c1 := box_cell bx 1 _ rfl; have c2 := box_cell bx 2 _ rfl; have c3 := box_cell bx 3 _ rfl; have c4 := box_cell bx 4 _ rfl; have c5 := box_cell bx 5 _ rfl; have c6 := box_cell bx 6 _ rfl; have c7 := box_cell bx 7 _ rfl; have c8 := box_cell bx 8 _ rfl; have c9 := box_cell bx 9 _ rfl; have c10 := box_cell bx 10 _ rfl; have c11 := box_cell bx 11 _ rfl; have c12 := box_cell bx 12 _ rfl))
  have hl6 := liesC_below hl5 ((Below.refl _ w5).alloc (Nat.le_refl _) (.cells #[.slice none 0 0] 138))
  obtain ⟨A1, HA1, hn1⟩ : ∃ A, Hid (A = num8 c.kind ++ num8 c.client ++ num8 c.seq ++ num8 c.snap ++ num8 (c.keys.length : Int)) ∧ A.length = 40 := ⟨_, rfl, by simp only [List.length_append, num8_len]⟩
  have h1 := hc.as (show _ = A1 by rw [HA1.out]; simp)
  clear hc bx c0 c1 c2 c3 c4 c5 c6 c7 c8 c9 c10 c11 c12 hm hs hbx hla
  go_cut [5] from 10 to 49 (fun _ wx => Wri w5.heap.size w5.heap.size (w5.alloc (.cells #[.slice none 0 0] 138)) wx (A1 ++ c.keys.flatMap txtB))
  case first =>
    go_wp2_with fail
    go_loopw [5] (fun i wr => ∃ k : Nat, k ≤ c.keys.length ∧ i = .int .i64 (k : Int) ∧ Wri w5.heap.size w5.heap.size (w5.alloc (.cells #[.slice none 0 0] 138)) wr (A1 ++ (c.keys.take k).flatMap txtB)) (fun i _ => c.keys.length - (intOf i).toNat)
    case atStart => exact ⟨0, by omega, rfl, h1.as (by simp)⟩
    case round =>
      clear h1
      obtain ⟨k, hk, rfl, hc⟩ := hrel
      have bx := hc.keep hbx6 (by decide) hq
      have bc := box_cell bx 4 _ rfl
      by_cases hkl : k < c.keys.length
      · obtain ⟨a, ha, hblk, e0⟩ := (liesC_below hl6 hc.low).keys k c.keys[k] (List.getElem?_eq_getElem hkl)
        rw [Nat.mul_one] at e0
        unfold TxtAt at e0
        have hsum := flat_at txtB c.keys k hkl
        have hcat := flat_snoc txtB c.keys k hkl
        rw [ha] at bc
        clear ha
        rw [txt_len] at hsum
        generalize c.keys[k] = y at *
        have ht := wText_any hc y (by first | omega | (simp only [List.length_append]; omega) | (simp only [List.length_append, lensB]; omega))
        go_wp2_with (first
          | (go_at_call 59; refine ht.mono ?_; rintro e _ ⟨rfl, hc⟩))
        go_roundw
        case rel => exact ⟨k + 1, by omega, by go_num, hc.as (by rw [hcat]; simp only [List.append_assoc])⟩
        case measure => simp [intOf]; omega
      · have hke : k = c.keys.length := by omega
        have hc2 := hc.as (show _ = A1 ++ c.keys.flatMap txtB by rw [hke, List.take_length])
        have i1 : ¬ (k : Int) < (c.keys.length : Int) := by omega
        clear hke hc
        go_wp2
        go_meet
        case rel => exact hc2
  case rest =>
    clear h1
    have hc := hcut
    clear hcut
    generalize wc = WC1 at *
    have bx := hc.keep hbx6 (by decide) hq
    have c0 := box_cell bx 0 _ rfl
    have c1 := box_cell bx 1 _ rfl
    have c2 := box_cell bx 2 _ rfl
    have c3 := box_cell bx 3 _ rfl
    have c4 := box_cell bx 4 _ rfl
    have c5 := box_cell bx 5 _ rfl
    have c6 := box_cell bx 6 _ rfl
    have c7 := box_cell bx 7 _ rfl
    have c8 := box_cell bx 8 _ rfl
    have c9 := box_cell bx 9 _ rfl
    have c10 := box_cell bx 10 _ rfl
    have c11 := box_cell bx 11 _ rfl
    have c12 := box_cell bx 12 _ rfl
    go_upto_block 2 with (first
      | (go_at_call 58; refine (wNum_any hc _ (by first | omega | (simp only [List.length_append]; omega) | (simp only [List.length_append, lensB]; omega))).mono ?_; rintro e _ ⟨rfl, hc⟩; have bx := hc.keep hbx6 (by decide) hq; have c0 := box_cell bx 0 _ rfl; have c1 := box_cell bx 1 _ rfl; have c2 := box_cell bx 2 _ rfl; have c3 := box_cell bx 3 _ rfl; have c4 := box_cell bx 4 _ rfl; have c5 := box_cell bx 5 _ rfl; have c6 := box_cell bx 6 _ rfl; have c7 := box_cell bx 7 _ rfl; have c8 := box_cell bx 8 _ rfl; have c9 := box_cell bx 9 _ rfl; have c10 := box_cell bx 10 _ rfl; have c11 := box_cell bx 11 _ rfl; have c12 := box_cell bx 12 _ rfl))
    obtain ⟨A2, HA2, hn2⟩ : ∃ A, Hid (A = A1 ++ c.keys.flatMap txtB ++ num8 (c.rngs.length : Int)) ∧ A.length = A1.length + (c.keys.flatMap txtB).length + 8 := ⟨_, rfl, by first | (simp only [List.length_append, lensB]; done) | (simp only [List.length_append, lensB]; omega)⟩
    have h2 := hc.as (show _ = A2 by rw [HA2.out])
    clear hc bx c0 c1 c2 c3 c4 c5 c6 c7 c8 c9 c10 c11 c12
    go_cut [6] from 10 to 77 (fun _ wx => Wri w5.heap.size w5.heap.size (w5.alloc (.cells #[.slice none 0 0] 138)) wx (A2 ++ c.rngs.flatMap rngB))
    case first =>
      go_wp2_with fail
      go_loopw [6] (fun i wr => ∃ k : Nat, k ≤ c.rngs.length ∧ i = .int .i64 (k : Int) ∧ Wri w5.heap.size w5.heap.size (w5.alloc (.cells #[.slice none 0 0] 138)) wr (A2 ++ (c.rngs.take k).flatMap rngB)) (fun i _ => c.rngs.length - (intOf i).toNat)
      case atStart => exact ⟨0, by omega, rfl, h2.as (by simp)⟩
      case round =>
        clear h2
        obtain ⟨k, hk, rfl, hc⟩ := hrel
        have bx := hc.keep hbx6 (by decide) hq
        have bc := box_cell bx 5 _ rfl
        by_cases hkl : k < c.rngs.length
        · obtain ⟨a, ha, hblk, hat⟩ := (liesC_below hl6 hc.low).rngs k c.rngs[k] (List.getElem?_eq_getElem hkl)
          have ha0 := ha
          have hsum := flat_at rngB c.rngs k hkl
          have hcat := flat_snoc rngB c.rngs k hkl
          rw [ha] at bc
          clear ha
          have HA0 : Hid (s.ro = some a) := ha0
          have HAT : Hid (∀ W', Below w5.heap.size wr W' → RngAt W' (a.add (k * 2)) c.rngs[k]) := fun W' hb => RngAt.fast _ _ _ _ (by rw [Addr.block_add]; exact hblk) hat hb
          clear ha0
          generalize c.rngs[k] = y at *
          have hyl : (rngB y).length = 16 + (y.lo.size + y.hi.size) := by unfold rngB; simp only [List.length_append, lensB]; omega
          obtain ⟨e0, e1⟩ := hat
          go_wp2_with (first
            | (go_at_call 59; refine (wText_any hc1.here y.hi (by first | omega | (simp only [List.length_append]; omega) | (simp only [List.length_append, lensB]; omega))).mono ?_; rintro e W1 ⟨rfl, hd1⟩; have hc2 := hc1.chain hd1)
            | (go_at_call 59; refine (wText_any hc.here y.lo (by first | omega | (simp only [List.length_append]; omega) | (simp only [List.length_append, lensB]; omega))).mono ?_; rintro e W0 ⟨rfl, hd0⟩; have hc1 := hc.chain hd0; have hlw1 := hd0.low; have bx0 := hc1.keep hbx6 (by decide) hq; have bc0 := box_cell bx0 5 _ rfl; rw [HA0.out] at bc0; obtain ⟨f00, f01⟩ := HAT.out _ hlw1))
          have hc := hc2
          go_roundw
          case rel => exact ⟨k + 1, by omega, by go_num, hc.as (by rw [hcat]; unfold rngB; simp only [List.append_assoc])⟩
          case measure => simp [intOf]; omega
        · have hke : k = c.rngs.length := by omega
          have hc2 := hc.as (show _ = A2 ++ c.rngs.flatMap rngB by rw [hke, List.take_length])
          have i1 : ¬ (k : Int) < (c.rngs.length : Int) := by omega
          clear hke hc
          go_wp2
          go_meet
          case rel => exact hc2
    case rest =>
      clear h2
      have hc := hcut
      clear hcut
      generalize wc = WC2 at *
      have bx := hc.keep hbx6 (by decide) hq
      have c0 := box_cell bx 0 _ rfl
      have c1 := box_cell bx 1 _ rfl
      have c2 := box_cell bx 2 _ rfl
      have c3 := box_cell bx 3 _ rfl
      have c4 := box_cell bx 4 _ rfl
      have c5 := box_cell bx 5 _ rfl
      have c6 := box_cell bx 6 _ rfl
      have c7 := box_cell bx 7 _ rfl
      have c8 := box_cell bx 8 _ rfl
      have c9 := box_cell bx 9 _ rfl
      have c10 := box_cell bx 10 _ rfl
      have c11 := box_cell bx 11 _ rfl
      have c12 := box_cell bx 12 _ rfl
      go_upto_block 4 with (first
        | (go_at_call 58; refine (wNum_any hc _ (by first | omega | (simp only [List.length_append]; omega) | (simp only [List.length_append, lensB]; omega))).mono ?_; rintro e _ ⟨rfl, hc⟩; have bx := hc.keep hbx6 (by decide) hq; have c0 := box_cell bx 0 _ rfl; have c1 := box_cell bx 1 _ rfl; have c2 := box_cell bx 2 _ rfl; have c3 := box_cell bx 3 _ rfl; have c4 := box_cell bx 4 _ rfl; have c5 := box_cell bx 5 _ rfl; have c6 := box_cell bx 6 _ rfl; have c7 := box_cell bx 7 _ rfl; have c8 := box_cell bx 8 _ rfl; have c9 := box_cell bx 9 _ rfl; have c10 := box_cell bx 10 _ rfl; have c11 := box_cell bx 11 _ rfl; have c12 := box_cell bx 12 _ rfl))
      obtain ⟨A3, HA3, hn3⟩ : ∃ A, Hid (A = A2 ++ c.rngs.flatMap rngB ++ num8 (c.wrts.length : Int)) ∧ A.length = A2.length + (c.rngs.flatMap rngB).length + 8 := ⟨_, rfl, by first | (simp only [List.length_append, lensB]; done) | (simp only [List.length_append, lensB]; omega)⟩
      have h3 := hc.as (show _ = A3 by rw [HA3.out])
      clear hc bx c0 c1 c2 c3 c4 c5 c6 c7 c8 c9 c10 c11 c12
      go_cut [7] from 10 to 113 (fun _ wx => Wri w5.heap.size w5.heap.size (w5.alloc (.cells #[.slice none 0 0] 138)) wx (A3 ++ c.wrts.flatMap wrtB))
      case first =>
        go_wp2_with fail
        go_loopw [7] (fun i wr => ∃ k : Nat, k ≤ c.wrts.length ∧ i = .int .i64 (k : Int) ∧ Wri w5.heap.size w5.heap.size (w5.alloc (.cells #[.slice none 0 0] 138)) wr (A3 ++ (c.wrts.take k).flatMap wrtB)) (fun i _ => c.wrts.length - (intOf i).toNat)
        case atStart => exact ⟨0, by omega, rfl, h3.as (by simp)⟩
        case round =>
          clear h3
          obtain ⟨k, hk, rfl, hc⟩ := hrel
          have bx := hc.keep hbx6 (by decide) hq
          have bc := box_cell bx 6 _ rfl
          by_cases hkl : k < c.wrts.length
          · obtain ⟨a, ha, hblk, hat⟩ := (liesC_below hl6 hc.low).wrts k c.wrts[k] (List.getElem?_eq_getElem hkl)
            have ha0 := ha
            have hsum := flat_at wrtB c.wrts k hkl
            have hcat := flat_snoc wrtB c.wrts k hkl
            rw [ha] at bc
            clear ha
            have HA0 : Hid (s.wo = some a) := ha0
            have HAT : Hid (∀ W', Below w5.heap.size wr W' → WrtAt W' (a.add (k * 3)) c.wrts[k]) := fun W' hb => WrtAt.fast _ _ _ _ (by rw [Addr.block_add]; exact hblk) hat hb
            clear ha0
            generalize c.wrts[k] = y at *
            have hyl : (wrtB y).length = 24 + (y.key.size + y.val.size) := by unfold wrtB; simp only [List.length_append, lensB]; omega
            obtain ⟨e0, e1, e2⟩ := hat
            go_wp2_with (first
              | (go_at_call 60; refine (wBool_any hc2.here y.del (by first | omega | (simp only [List.length_append]; omega) | (simp only [List.length_append, lensB]; omega))).mono ?_; rintro e W2 ⟨rfl, hd2⟩; have hc3 := hc2.chain hd2)
              | (go_at_call 59; refine (wText_any hc1.here y.val (by first | omega | (simp only [List.length_append]; omega) | (simp only [List.length_append, lensB]; omega))).mono ?_; rintro e W1 ⟨rfl, hd1⟩; have hc2 := hc1.chain hd1; have hlw2 := (hlw1.trans hd1.low); have bx1 := hc2.keep hbx6 (by decide) hq; have bc1 := box_cell bx1 6 _ rfl; rw [HA0.out] at bc1; obtain ⟨f10, f11, f12⟩ := HAT.out _ hlw2)
              | (go_at_call 59; refine (wText_any hc.here y.key (by first | omega | (simp only [List.length_append]; omega) | (simp only [List.length_append, lensB]; omega))).mono ?_; rintro e W0 ⟨rfl, hd0⟩; have hc1 := hc.chain hd0; have hlw1 := hd0.low; have bx0 := hc1.keep hbx6 (by decide) hq; have bc0 := box_cell bx0 6 _ rfl; rw [HA0.out] at bc0; obtain ⟨f00, f01, f02⟩ := HAT.out _ hlw1))
            have hc := hc3
            go_roundw
            case rel => exact ⟨k + 1, by omega, by go_num, hc.as (by rw [hcat]; unfold wrtB; simp only [List.append_assoc])⟩
            case measure => simp [intOf]; omega
          · have hke : k = c.wrts.length := by omega
            have hc2 := hc.as (show _ = A3 ++ c.wrts.flatMap wrtB by rw [hke, List.take_length])
            have i1 : ¬ (k : Int) < (c.wrts.length : Int) := by omega
            clear hke hc
            go_wp2
            go_meet
            case rel => exact hc2
      case rest =>
        clear h3
        have hc := hcut
        clear hcut
        generalize wc = WC3 at *
        have bx := hc.keep hbx6 (by decide) hq
        have c0 := box_cell bx 0 _ rfl
        have c1 := box_cell bx 1 _ rfl
        have c2 := box_cell bx 2 _ rfl
        have c3 := box_cell bx 3 _ rfl
        have c4 := box_cell bx 4 _ rfl
        have c5 := box_cell bx 5 _ rfl
        have c6 := box_cell bx 6 _ rfl
        have c7 := box_cell bx 7 _ rfl
        have c8 := box_cell bx 8 _ rfl
        have c9 := box_cell bx 9 _ rfl
        have c10 := box_cell bx 10 _ rfl
        have c11 := box_cell bx 11 _ rfl
        have c12 := box_cell bx 12 _ rfl
        go_upto_block 6 with (first
          | (go_at_call 58; refine (wNum_any hc _ (by first | omega | (simp only [List.length_append]; omega) | (simp only [List.length_append, lensB]; omega))).mono ?_; rintro e _ ⟨rfl, hc⟩; have bx := hc.keep hbx6 (by decide) hq; have c0 := box_cell bx 0 _ rfl; have c1 := box_cell bx 1 _ rfl; have c2 := box_cell bx 2 _ rfl; have c3 := box_cell bx 3 _ rfl; have c4 := box_cell bx 4 _ rfl; have c5 := box_cell bx 5 _ rfl; have c6 := box_cell bx 6 _ rfl; have c7 := box_cell bx 7 _ rfl; have c8 := box_cell bx 8 _ rfl; have c9 := box_cell bx 9 _ rfl; have c10 := box_cell bx 10 _ rfl; have c11 := box_cell bx 11 _ rfl; have c12 := box_cell bx 12 _ rfl)
          | (go_at_call 59; refine (wText_any hc _ (by first | omega | (simp only [List.length_append]; omega) | (simp only [List.length_append, lensB]; omega))).mono ?_; rintro e _ ⟨rfl, hc⟩; have bx := hc.keep hbx6 (by decide) hq; have c0 := box_cell bx 0 _ rfl; have c1 := box_cell bx 1 _ rfl; have c2 := box_cell bx 2 _ rfl; have c3 := box_cell bx 3 _ rfl; have c4 := box_cell bx 4 _ rfl; have c5 := box_cell bx 5 _ rfl; have c6 := box_cell bx 6 _ rfl; have c7 := box_cell bx 7 _ rfl; have c8 := box_cell bx 8 _ rfl; have c9 := box_cell bx 9 _ rfl; have c10 := box_cell bx 10 _ rfl; have c11 := box_cell bx 11 _ rfl; have c12 := box_cell bx 12 _ rfl))
        obtain ⟨A4, HA4, hn4⟩ : ∃ A, Hid (A = A3 ++ c.wrts.flatMap wrtB ++ num8 c.dead ++ num8 c.aft ++ num8 c.held ++ txtB c.text ++ num8 c.code ++ num8 (c.rows.length : Int)) ∧ A.length = A3.length + (c.wrts.flatMap wrtB).length + (48 + c.text.size) := ⟨_, rfl, by first | (simp only [List.length_append, lensB]; done) | (simp only [List.length_append, lensB]; omega)⟩
        have h4 := hc.as (show _ = A4 by rw [HA4.out])
        clear hc bx c0 c1 c2 c3 c4 c5 c6 c7 c8 c9 c10 c11 c12
        go_cut [8, 9] from 10 to 173 (fun _ _ wx => Wri w5.heap.size w5.heap.size (w5.alloc (.cells #[.slice none 0 0] 138)) wx (A4 ++ c.rows.flatMap rowB'))
        case first =>
          go_wp2_with fail
          go_loopw [8] (fun i wr => ∃ k : Nat, k ≤ c.rows.length ∧ i = .int .i64 (k : Int) ∧ Wri w5.heap.size w5.heap.size (w5.alloc (.cells #[.slice none 0 0] 138)) wr (A4 ++ (c.rows.take k).flatMap rowB')) (fun i _ => c.rows.length - (intOf i).toNat)
          case atStart => exact ⟨0, by omega, rfl, h4.as (by simp)⟩
          case round =>
            clear h4
            obtain ⟨k, hk, rfl, hc⟩ := hrel
            have bx := hc.keep hbx6 (by decide) hq
            have bc := box_cell bx 12 _ rfl
            by_cases hkl : k < c.rows.length
            · obtain ⟨a, ha, hblk, hat⟩ := (liesC_below hl6 hc.low).rows k c.rows[k] (List.getElem?_eq_getElem hkl)
              have hsum := flat_at rowB' c.rows k hkl
              have hcat := flat_snoc rowB' c.rows k hkl
              have h8 := q5 _ (List.getElem_mem hkl)
              have hyin := hin _ (List.getElem_mem hkl)
              have HA0 : Hid (s.xo = some a) := ha
              rw [ha] at bc
              clear ha
              generalize c.rows[k] = y at *
              have hyl : (rowB' y).length = 8 + (y.flatMap valB).length := by unfold rowB' lstB; simp only [List.length_append, lensB]
              obtain ⟨ao2, cap2, e0, hl2⟩ := hat
              rw [Nat.mul_one] at e0
              have HE0 : Hid (∀ W', Below w5.heap.size wr W' → W'.cell? (a.add k) = some (.slice ao2 y.length cap2)) := fun W' hb => (hb.cell (by rw [Addr.block_add]; exact hblk)).trans e0
              have HL2 : Hid (∀ W', Below w5.heap.size wr W' → LiesVal W' w5.heap.size ao2 y) := fun W' hb => hl2.below ValAt.fast hb
              have i1 : (k : Int) < (c.rows.length : Int) := by omega
              have ht := wNum_any hc.here (y.length : Int) (by first | omega | (simp only [List.length_append]; omega) | (simp only [List.length_append, lensB]; omega))
              clear hl2
              go_wp2_with (first
                | (go_at_call 58; refine ht.mono ?_; rintro e W1 ⟨rfl, hd⟩; clear ht))
              clear bx bc e0
              rename World => WQ
              go_loopw [9] (fun i wq => ∃ m : Nat, m ≤ y.length ∧ i = .int .i64 (m : Int) ∧ Wri w5.heap.size w5.heap.size wr wq (A4 ++ (c.rows.take k).flatMap rowB' ++ num8 (y.length : Int) ++ (y.take m).flatMap valB)) (fun i _ => y.length - (intOf i).toNat)
              case atStart => exact ⟨0, by omega, rfl, hd.as (by simp)⟩
              case round =>
                clear hd
                obtain ⟨m, hm, rfl, hd⟩ := hrel
                have bx := (hc.chain hd).keep hbx6 (by decide) hq
                have bc := box_cell bx 12 _ rfl
                rw [HA0.out] at bc
                have e0 := HE0.out _ hd.low
                by_cases hml : m < y.length
                · obtain ⟨a2, ha2, _, f0, f1, f2, f3⟩ := HL2.out _ hd.low m y[m] (List.getElem?_eq_getElem hml)
                  have hsum2 := flat_at valB y m hml
                  have hcat2 := flat_snoc valB y m hml
                  have hvok := hyin _ (List.getElem_mem hml)
                  rw [ha2] at e0
                  clear ha2
                  generalize y[m] = z at *
                  have ht := wVal_any hd z hvok (by first | omega | (simp only [List.length_append]; omega) | (simp only [List.length_append, lensB]; omega))
                  go_wp2_with (first
                    | (go_at_call 61; refine ht.mono ?_; rintro e W2 ⟨rfl, hd2⟩; clear ht))
                  go_roundw
                  case rel => exact ⟨m + 1, by omega, by go_num, hd2.as (by rw [hcat2]; simp only [List.append_assoc])⟩
                  case measure => simp [intOf]; omega
                · have hme : m = y.length := by omega
                  subst hme
                  rw [List.take_length] at hd
                  have hc2 := hc.chain hd
                  clear hc hd
                  go_wp2
                  go_roundw
                  case rel => exact ⟨k + 1, by omega, by go_num, hc2.as (by rw [hcat]; unfold rowB' lstB; simp only [List.append_assoc])⟩
                  case measure => simp [intOf]; omega
            · have hke : k = c.rows.length := by omega
              have hc2 := hc.as (show _ = A4 ++ c.rows.flatMap rowB' by rw [hke, List.take_length])
              have i1 : ¬ (k : Int) < (c.rows.length : Int) := by omega
              clear hke hc
              go_wp2
              go_meet
              case rel => exact hc2
        case rest =>
            clear h4
            have hc := hcut
            clear hcut
            generalize wc = WC4 at *
            have hc := hc.as (show _ = cmdB c by rw [HA4.out, HA3.out, HA2.out, HA1.out]; unfold cmdB lstB; simp only [List.append_assoc])
            obtain ⟨v7, hbox7, hown7⟩ := hc.box
            have c7 := box_cell hbox7 0 _ rfl
            have hconv := conv_own _ _ _ _ _ hown7
            obtain ⟨ao7, cap7, rfl⟩ := own_len hown7
            have hlow := below_next (below_box0 hb5) (Nat.le_refl _) (((Below.refl _ w5).alloc (Nat.le_refl _) _).trans hc.low)
            have hs := refSeal_any (str (cmdB c)) (by rw [str_size]; omega)
            rw [str_data] at hs
            by_cases hlong : 19996 < ((cmdB c).length : Int)
            · have he : Hid (putR c = _) := HQ.out (by omega)
              clear HP HQ hs
              go_wp2
              go_ret2
              exact ⟨by rw [he.out]; rfl, hlow⟩
            · have he : Hid (putR c = _) := HP.out (by omega)
              clear HP HQ
              generalize sealL (cmdB c) = SS at *
              go_wp2_with (first
                | (go_at_call 62; refine (hs _).mono ?_; rintro e w8 ⟨rfl, hb8⟩))
              go_ret2
              exact ⟨by rw [he.out]; rfl, below_next hlow (Nat.le_refl _) hb8⟩
end Go.Proofs.YtclliljkmmpglaaGreat
