/-
  Proved: for every replica and messages the law ReplicaGoes returns true: whatever comes, a replica that may be stays one, and its view and what is committed do not fall (11.7, as the law asks it), and the document's example holds; what was handed in reads behind the call as before. No condition.
-/
import Derived.Test.YtajbdffepfjegaaGreatRows
import Derived.Test.YtajbdffepfjegaaGreatRpGop
import Derived.Test.YtajbdffepfjegaaGreatRpGoo
import Derived.Test.YtajbdffepfjegaaGreatRpLmx
import Derived.Test.YtajbdffepfjegaaGreatRpMq
import Derived.Test.YtajbdffepfjegaaGreatRpG7
import Derived.Test.YtajbdffepfjegaaGreatRpG9
import Derived.WalkKit
import Derived.ProofKit
import Derived.OpenShut
import Derived.ShutString
import Derived.Lib.SmallJoins
import Derived.Deep.CutBlock
namespace Go.Proofs.YtajbdffepfjegaaGreat.replicaGoes
open Go.ChangeShapes Go.WideShapes Go.ChangeAt Go.RowKit Go.Joins Num
open Go.ChangeMaps (open_string shut_string)
set_option linter.unusedVariables false
set_option maxRecDepth 100000

theorem own : ownKnob Tryz.prog.godebug = none := by kernel_rfl
open scoped Classical
set_option maxRecDepth 100000
set_option maxHeartbeats 8000000

theorem main (r0 : Rep) (s0 : Sl) (hwd0 : WideM0 r0) (ao1 : Option Addr) (cap1 : Nat) (l1 : Msgs) (w : World) (hl0 : LiesR w w.heap.size s0 r0) (hl1 : LiesMB w w.heap.size ao1 l1) (hb0 : Below w.heap.size w (w.alloc (repO r0 (.slice s0.lo r0.log.length s0.lc) (.slice s0.ao r0.acked.length s0.ac) (.slice s0.vo r0.votes.length s0.vc) (.slice s0.wo r0.voters.length s0.wc) (.slice s0.bo r0.best.length s0.bc) 25))) (bx0 : BoxS (w.alloc (repO r0 (.slice s0.lo r0.log.length s0.lc) (.slice s0.ao r0.acked.length s0.ac) (.slice s0.vo r0.votes.length s0.vc) (.slice s0.wo r0.voters.length s0.wc) (.slice s0.bo r0.best.length s0.bc) 25)) w.heap.size r0 s0) (hla : LiesR (w.alloc (repO r0 (.slice s0.lo r0.log.length s0.lc) (.slice s0.ao r0.acked.length s0.ac) (.slice s0.vo r0.votes.length s0.vc) (.slice s0.wo r0.voters.length s0.wc) (.slice s0.bo r0.best.length s0.bc) 25)) (w.alloc (repO r0 (.slice s0.lo r0.log.length s0.lc) (.slice s0.ao r0.acked.length s0.ac) (.slice s0.vo r0.votes.length s0.vc) (.slice s0.wo r0.voters.length s0.wc) (.slice s0.bo r0.best.length s0.bc) 25)).heap.size s0 r0)
    (hG : Calls Tryz.prog 7 #[repV r0 s0] (w.alloc (repO r0 (.slice s0.lo r0.log.length s0.lc) (.slice s0.ao r0.acked.length s0.ac) (.slice s0.vo r0.votes.length s0.vc) (.slice s0.wo r0.voters.length s0.wc) (.slice s0.bo r0.best.length s0.bc) 25)) fun e w' => e = .returned (.bool false) ∧ Below (w.alloc (repO r0 (.slice s0.lo r0.log.length s0.lc) (.slice s0.ao r0.acked.length s0.ac) (.slice s0.vo r0.votes.length s0.vc) (.slice s0.wo r0.voters.length s0.wc) (.slice s0.bo r0.best.length s0.bc) 25)).heap.size (w.alloc (repO r0 (.slice s0.lo r0.log.length s0.lc) (.slice s0.ao r0.acked.length s0.ac) (.slice s0.vo r0.votes.length s0.vc) (.slice s0.wo r0.voters.length s0.wc) (.slice s0.bo r0.best.length s0.bc) 25)) w') (hM : ∀ W : World, LiesR W W.heap.size s0 r0 → Calls Tryz.prog 8 #[repV r0 s0] W fun e w' => e = .returned (.bool true) ∧ Below W.heap.size W w')
    (q2 : ¬ 10 < (l1.length : Int)) (q4 : ¬ 0 < (r0.voters.length : Int)) (q5 : ¬ 0 < (r0.best.length : Int)) (HK0 : Hid (May r0 ∧ VotOk r0)) :
    Calls Tryz.prog 5 #[repV r0 s0, .slice ao1 l1.length cap1] w fun e w' => e = .returned (.bool true) ∧ Below w.heap.size w w' := by
  have d2 : decide (10 < (l1.length : Int)) = false := decide_eq_false q2
  have d4 : decide (0 < r0.voters.length) = false := decide_eq_false (by omega)
  have d5 : decide (0 < r0.best.length) = false := decide_eq_false (by omega)
  go_enter Tryz.func5, Tryz.ntmps5
  go_wp2_with (first
    | (go_at_call 7; refine hG.mono ?_; rintro e w1 ⟨rfl, hb1⟩; have hw1 := hb0.trans (hb1.mono hb0.size); have bx1 := bx0.below hb1; obtain ⟨a0, a1, a2, a3, a4, a5, a6, a7, a8, a9, a10, a11, a12⟩ := bx1.rep (by omega); have hla1 := liesR_next hla hb1 hb1.size)
    | (go_at_call 8; refine (hM _ hla1).mono ?_; rintro e w2 ⟨rfl, hb2⟩; have hw2 := below_next hw1 (Nat.le_refl _) hb2; have bx2 := bx1.below hb2; obtain ⟨dd0, dd1, dd2, dd3, dd4, dd5, dd6, dd7, dd8, dd9, dd10, dd11, dd12⟩ := bx2.rep (by omega); have hla2 := liesR_next hla1 hb2 hb2.size))
  clear hG hM hla1 hla bx0 bx1 hw1 a0 a1 a2 a3 a4 a5 a6 a7 a8 a9 a10 a11 a12 dd0 dd1 dd2 dd3 dd4 dd5 dd6 dd7 dd8 dd9 dd10 dd11 dd12 q4 q5 d2 d4 d5
  go_loopw [5] (fun i wr => ∃ (k : Nat) (q : Rep) (s : Sl), k ≤ l1.length ∧ i = .int .i64 (k : Int) ∧ BoxS wr w.heap.size q s ∧ LiesR wr wr.heap.size s q ∧ Below w.heap.size w wr ∧ Hid (May q ∧ VotOk q)) (fun i _ => l1.length - (intOf i).toNat)
  case atStart => exact ⟨0, r0, s0, by omega, rfl, bx2, hla2, hw2, HK0⟩
  case round =>
    clear bx2 hla2 hw2 HK0 hb1 hb2
    obtain ⟨k, q, s, hk, rfl, bx, hlR, hbel, HK⟩ := hrel
    by_cases hkl : k < l1.length
    · obtain ⟨a, rfl, hblk, e0, e1, e2, e3, e4, e5, e6, bo, c, e7, hE0, hcc⟩ := (hl1.below MsAtB.fast hbel) k l1[k] (List.getElem?_eq_getElem hkl)
      have i1 : (k : Int) < (l1.length : Int) := by omega
      have hE := liesE_next hE0 (Below.refl _ wr) hbel.size
      clear hE0
      generalize l1[k] = y at *
      have hen := entries_any y.log bo c wr hE
      cases he : entB y.log with
      | true =>
        rw [he] at hen
        clear he
        go_wp2_with (first
          | (go_at_call 10; refine hen.mono ?_; rintro e wn ⟨rfl, hq⟩; have hq' := hq.symm; clear hq; subst hq')
          | (go_at_call 9; refine (awake_any _).mono ?_; rintro e w9 ⟨rfl, hb9⟩))
        go_ret
        exact ⟨rfl, below_next hbel (Nat.le_refl _) hb9⟩
      | false =>
      rw [he] at hen
      clear he
      go_upto_region 8 with (first
        | (go_at_call 10; refine hen.mono ?_; rintro e wn ⟨rfl, hq⟩; have hq' := hq.symm; clear hq; subst hq'))
      clear hen
      go_cut [6] from 41 to 53 (fun v6 wx => ∃ (mb : Nat) (m' : Msg), v6 = .pointer (some ⟨mb, 0, none⟩) ∧ wx.heap[mb]? = some (.cells #[.int .i64 m'.a0, .int .i64 m'.a1, .int .i64 m'.a2, .int .i64 m'.a3, .int .i64 m'.a4, .int .i64 m'.a5, .int .i64 m'.a6, .slice bo m'.log.length c] 27 (0, 0)) ∧ wr.heap.size ≤ mb ∧ Below wr.heap.size wr wx ∧ Hid (m'.log = y.log ∧ m'.a0 = y.a0))
      case first =>
        obtain ⟨a0, a1, a2, a3, a4, a5, a6, a7, a8, a9, a10, a11, a12⟩ := bx.rep (by omega)
        have aa0 := fun o : Obj => alloc_cell o a0
        have aa1 := fun o : Obj => alloc_cell o a1
        have aa2 := fun o : Obj => alloc_cell o a2
        have aa3 := fun o : Obj => alloc_cell o a3
        have aa4 := fun o : Obj => alloc_cell o a4
        have aa5 := fun o : Obj => alloc_cell o a5
        have aa6 := fun o : Obj => alloc_cell o a6
        have aa7 := fun o : Obj => alloc_cell o a7
        have aa8 := fun o : Obj => alloc_cell o a8
        have aa9 := fun o : Obj => alloc_cell o a9
        have aa10 := fun o : Obj => alloc_cell o a10
        have aa11 := fun o : Obj => alloc_cell o a11
        have aa12 := fun o : Obj => alloc_cell o a12
        have ee0 := fun o : Obj => alloc_cell o e0
        have ee1 := fun o : Obj => alloc_cell o e1
        have ee2 := fun o : Obj => alloc_cell o e2
        have ee3 := fun o : Obj => alloc_cell o e3
        have ee4 := fun o : Obj => alloc_cell o e4
        have ee5 := fun o : Obj => alloc_cell o e5
        have ee6 := fun o : Obj => alloc_cell o e6
        have ee7 := fun o : Obj => alloc_cell o e7
        have hF := fun (W : World) (hb : Below wr.heap.size wr W) => fitted_yes q s y bo c (wide_may HK.out.1).1 W (liesR_next hlR hb hb.size)
        have hF1 := hF wr.drew (Below.refl _ _).drew
        have hF2 := hF (wr.alloc (.cells #[.int .i64 0, .int .i64 0, .int .i64 0, .int .i64 0, .int .i64 0, .int .i64 0, .int .i64 0, .slice none 0 0] 27)).drew ((Below.refl _ _).alloc (Nat.le_refl _) _).drew
        have HZ : Hid ((wr.alloc (.cells #[.int .i64 0, .int .i64 0, .int .i64 0, .int .i64 0, .int .i64 0, .int .i64 0, .int .i64 0, .slice none 0 0] 27)).drew.heap[wr.heap.size]? = some (.cells #[.int .i64 0, .int .i64 0, .int .i64 0, .int .i64 0, .int .i64 0, .int .i64 0, .int .i64 0, .slice none 0 0] 27 (0, 0))) := heap_new wr (.cells #[.int .i64 0, .int .i64 0, .int .i64 0, .int .i64 0, .int .i64 0, .int .i64 0, .int .i64 0, .slice none 0 0] 27)
        clear hF bx hlR hE hbel
        go_region_law (first
          | (go_simp; go_at_call 11; have tk := hF1; refine hF1.mono ?_; rintro e w3 ⟨m', rfl, hml, hma, hb3⟩; have HM : Hid (m'.log = y.log ∧ m'.a0 = y.a0) := ⟨hml, hma⟩; clear hml hma)
          | (go_simp; go_at_call 11; refine hF2.mono ?_; rintro e w3 ⟨m', rfl, hml, hma, hb3⟩; have HM : Hid (m'.log = y.log ∧ m'.a0 = y.a0) := ⟨hml, hma⟩; clear hml hma
             have hz := below_box hb3 HZ.out
             obtain ⟨z0, z1, z2, z3, z4, z5, z6, z7⟩ := msgz_cells hz
             have zf := fun q => box_open hz q
             have hwh := msg_whole hz rfl m' bo c (Nat.le_refl wr.heap.size)
             have HWH : Hid _ := hwh
             clear hz hwh))
        all_goals first
          | (have tz := zf
             obtain ⟨bG, hwG⟩ := HWH.out
             have hbF : Below wr.heap.size wr _ := ((((Below.refl _ wr).alloc (Nat.le_refl _) (.cells #[.int .i64 0, .int .i64 0, .int .i64 0, .int .i64 0, .int .i64 0, .int .i64 0, .int .i64 0, .slice none 0 0] 27)).drew).trans (hb3.mono (by simp))).trans hwG
             simp only [sets] at bG hbF
             clear hwG HWH
             go_wp2_with fail
             go_meet
             case rel => exact ⟨wr.heap.size, m', rfl, bG, Nat.le_refl _, hbF, HM⟩)
          | (have bG := heap_new w3 (.cells #[.int .i64 m'.a0, .int .i64 m'.a1, .int .i64 m'.a2, .int .i64 m'.a3, .int .i64 m'.a4, .int .i64 m'.a5, .int .i64 m'.a6, .slice bo m'.log.length c] 27)
             have hbF : Below wr.heap.size wr (w3.alloc (.cells #[.int .i64 m'.a0, .int .i64 m'.a1, .int .i64 m'.a2, .int .i64 m'.a3, .int .i64 m'.a4, .int .i64 m'.a5, .int .i64 m'.a6, .slice bo m'.log.length c] 27)) := (((Below.refl _ wr).drew).trans hb3).alloc hb3.size _
             have hle : wr.heap.size ≤ w3.heap.size := hb3.size
             go_wp2_with fail
             go_meet
             case rel => exact ⟨w3.heap.size, m', rfl, bG, hle, hbF, HM⟩)
      case rest =>
        obtain ⟨mb, m', rfl, hmb, hmbB, hbm, HM0⟩ := hcut
        generalize wc = Wm at *
        have hgmb : w.heap.size < wr.heap.size := bx.lt
        clear e0 e1 e2 e3 e4 e5 e6 e7 hblk
        go_upto_region 9 with fail
        go_cut [61] from 54 to 61 (fun v61 wx => ∃ b : Bool, v61 = .bool b ∧ wx = Wm)
        case first =>
          obtain ⟨n0, n1, n2, n3, n4, n5, n6, n7⟩ := msg_cells hmb
          clear bx hlR hbel HK hE hcc hbm hmb
          by_cases k8 : m'.a0 = 8
          · have e8 : (m'.a0 == 8) = true := by simp [k8]
            have e8' : decide (m'.a0 = 8) = true := decide_eq_true k8
            clear k8
            go_wp2
            go_meet
            case rel => exact ⟨_, rfl, rfl⟩
          · have e8 : (m'.a0 == 8) = false := by simp [k8]
            have e8' : decide (m'.a0 = 8) = false := decide_eq_false k8
            clear k8
            go_wp2
            go_meet
            case rel => exact ⟨_, rfl, rfl⟩
        case rest =>
          obtain ⟨bb, rfl, hwc⟩ := hcut
          subst hwc
          rename World => Wm
          go_upto_if 61 with fail
          go_cut [6] from 54 to 62 (fun v6 wx => v6 = .pointer (some ⟨mb, 0, none⟩) ∧ ∃ m2 : Msg, wx.heap[mb]? = some (.cells #[.int .i64 m2.a0, .int .i64 m2.a1, .int .i64 m2.a2, .int .i64 m2.a3, .int .i64 m2.a4, .int .i64 m2.a5, .int .i64 m2.a6, .slice bo m2.log.length c] 27 (0, 0)) ∧ Below wr.heap.size wr wx ∧ Hid (m2.log = y.log ∧ m2.a0 = y.a0))
          case first =>
            obtain ⟨n0, n1, n2, n3, n4, n5, n6, n7⟩ := msg_cells hmb
            have nz := box_open hmb
            cases bb with
            | true =>
              have hm2 : (Wm.setCell ⟨mb, 4, none⟩ (.int .i64 0)).heap[mb]? = some (.cells #[.int .i64 m'.a0, .int .i64 m'.a1, .int .i64 m'.a2, .int .i64 m'.a3, .int .i64 0, .int .i64 m'.a5, .int .i64 m'.a6, .slice bo m'.log.length c] 27 (0, 0)) := (heap_setCell_same Wm mb 4 _ _ _ hmb).trans (by simp)
              have hbs : Below wr.heap.size wr (Wm.setCell ⟨mb, 4, none⟩ (.int .i64 0)) := hbm.setCell (p := ⟨mb, 4, none⟩) hmbB _
              clear bx hlR hbel HK hE hcc hbm hmb
              go_wp2
              go_meet
              case rel => exact ⟨rfl, ⟨m'.a0, m'.a1, m'.a2, m'.a3, 0, m'.a5, m'.a6, m'.log⟩, hm2, hbs, HM0⟩
            | false =>
              clear bx hlR hbel HK hE hcc
              go_wp2
              go_meet
              case rel => exact ⟨rfl, m', hmb, hbm, HM0⟩
          case rest =>
            clear hmb hbm HM0
            obtain ⟨rfl, m2, hm2, hbs, HM2⟩ := hcut
            generalize wc = W2 at *
            have bx2 := bx.below hbs
            go_upto_region 11 with fail
            go_cut [78] from 54 to 78 (fun v78 wx => ∃ b : Bool, v78 = .bool b ∧ wx = W2 ∧ Hid (b = false → ¬ m2.a0 = 5 ∧ (m2.a0 = 6 → q.commit ≤ (m2.log.length : Int))))
            case first =>
              obtain ⟨n0, n1, n2, n3, n4, n5, n6, n7⟩ := msg_cells hm2
              obtain ⟨j0, j1, j2, j3, j4, j5, j6, j7, j8, j9, j10, j11, j12⟩ := bx2.rep (by omega)
              clear bx hlR hbel HK hE hcc hbs hm2 bx2 HM2
              by_cases k6 : m2.a0 = 6
              · have e6 : (m2.a0 == 6) = true := by simp [k6]
                have e5 : (m2.a0 == 5) = false := by simp [k6]
                by_cases hsh : (m2.log.length : Int) < q.commit
                · have HQ := True.intro
                  clear k6
                  go_wp2
                  go_meet
                  case rel => exact ⟨_, rfl, rfl, by first | exact fun _ => HQ.out | (intro h; cases h)⟩
                · have HQ : Hid (¬ m2.a0 = 5 ∧ (m2.a0 = 6 → q.commit ≤ (m2.log.length : Int))) := ⟨by omega, fun _ => by omega⟩
                  clear k6
                  go_wp2
                  go_meet
                  case rel => exact ⟨_, rfl, rfl, by first | exact fun _ => HQ.out | (intro h; cases h)⟩
              · have e6 : (m2.a0 == 6) = false := by simp [k6]
                by_cases k5 : m2.a0 = 5
                · have e5 : (m2.a0 == 5) = true := by simp [k5]
                  have HQ := True.intro
                  clear k5 k6
                  go_wp2
                  go_meet
                  case rel => exact ⟨_, rfl, rfl, by first | exact fun _ => HQ.out | (intro h; cases h)⟩
                · have e5 : (m2.a0 == 5) = false := by simp [k5]
                  have HQ : Hid (¬ m2.a0 = 5 ∧ (m2.a0 = 6 → q.commit ≤ (m2.log.length : Int))) := ⟨k5, fun h => absurd h k6⟩
                  clear k5 k6
                  go_wp2
                  go_meet
                  case rel => exact ⟨_, rfl, rfl, by first | exact fun _ => HQ.out | (intro h; cases h)⟩
            case rest =>
              obtain ⟨bb2, rfl, hwc, HQ⟩ := hcut
              subst hwc
              rename World => W2
              cases bb2 with
              | true =>
                clear HQ hE hcc hm2 HM2
                go_wp2
                go_roundw
                case rel => exact ⟨k + 1, q, s, by omega, by go_num, bx2, liesR_next hlR hbs hbs.size, hbel.trans (hbs.mono hbel.size), HK⟩
                case measure => simp [intOf]; omega
              | false =>
                have hQ5 := (HQ.out rfl).1
                have hQ6 := (HQ.out rfl).2
                have HM : Hid (m2.log = y.log) := HM2.out.1
                clear HQ HM2
                have hmlog : (m2 : Msg).log = y.log := HM.out
                have hT := take_anyS prep_any q s m2 bo c (may_small HK.out.1) (by rw [hmlog]; exact hcc) W2 (liesR_next hlR hbs hbs.size) (by rw [hmlog]; exact liesE_next hE hbs hbs.size)
                have hgo := go_step HK.out.1 HK.out.2 (m := m2) hQ5 hQ6 _ rfl
                clear hmlog hQ5 hQ6
                generalize takG q m2 (takeH q m2) = Q at *
                obtain ⟨q2, o2, E⟩ := Q
                dsimp only at hT hgo
                obtain ⟨hE2, hMay2, hv, hcm, hVot2⟩ := hgo
                have HG : Hid (May q2 ∧ VotOk q2) := ⟨hMay2, hVot2⟩
                have hvn : ¬ q2.view < q.view := by omega
                have hcn : ¬ q2.commit < q.commit := by omega
                have hwd2 := (wide_may hMay2).1
                have hmay3 := fun (W3 : World) (s3 : Sl) (h : LiesR W3 W3.heap.size s3 q2) => rmayW_any q2 s3 hwd2 W3 h
                rw [tru_yes hMay2] at hmay3
                obtain ⟨_, hz1, hz2, hz3, hz4, hz5⟩ := wide_may HK.out.1
                have hgB : w.heap.size < W2.heap.size := by
                  have h1 := bx2.lt
                  exact h1
                have hwW2 := hbel.trans (hbs.mono hbel.size)
                clear hMay2 hVot2 hwd2 hv hcm
                obtain ⟨g0, g1, g2, g3, g4, g5, g6, g7, g8, g9, g10, g11, g12⟩ := bx2.rep (by omega)
                obtain ⟨mm0, mm1, mm2, mm3, mm4, mm5, mm6, mm7⟩ := msg_cells (m := m2) hm2
                have HBX : Hid (BoxS W2 w.heap.size q s) := bx2
                have HLR : Hid (LiesR W2 W2.heap.size s q) := liesR_next hlR hbs hbs.size
                rcases hE2 with hE0 | ⟨hE0, hq2⟩
                · subst hE0
                  go_wp2_with (first
                    | (go_at_call 12; refine hT.mono ?_; rintro e w3 ⟨s3, xo, xc, rfl, hR3, hO3, hb3⟩; clear hT; have bs3 : BoxS (w3.alloc (repO q2 (.slice s3.lo q2.log.length s3.lc) (.slice s3.ao q2.acked.length s3.ac) (.slice s3.vo q2.votes.length s3.vc) (.slice s3.wo q2.voters.length s3.wc) (.slice s3.bo q2.best.length s3.bc) 25)) w3.heap.size q2 s3 := box_rep w3 q2 (.slice s3.lo q2.log.length s3.lc) (.slice s3.ao q2.acked.length s3.ac) (.slice s3.vo q2.votes.length s3.vc) (.slice s3.wo q2.voters.length s3.wc) (.slice s3.bo q2.best.length s3.bc) undef 25 w3.heap.size rfl; have br3 : BoxS (w3.alloc (repO q2 (.slice s3.lo q2.log.length s3.lc) (.slice s3.ao q2.acked.length s3.ac) (.slice s3.vo q2.votes.length s3.vc) (.slice s3.wo q2.voters.length s3.wc) (.slice s3.bo q2.best.length s3.bc) 25)) w.heap.size q s := (HBX.out.below hb3).alloc (repO q2 (.slice s3.lo q2.log.length s3.lc) (.slice s3.ao q2.acked.length s3.ac) (.slice s3.vo q2.votes.length s3.vc) (.slice s3.wo q2.voters.length s3.wc) (.slice s3.bo q2.best.length s3.bc) 25); have hls3 : LiesR (w3.alloc (repO q2 (.slice s3.lo q2.log.length s3.lc) (.slice s3.ao q2.acked.length s3.ac) (.slice s3.vo q2.votes.length s3.vc) (.slice s3.wo q2.voters.length s3.wc) (.slice s3.bo q2.best.length s3.bc) 25)) (w3.alloc (repO q2 (.slice s3.lo q2.log.length s3.lc) (.slice s3.ao q2.acked.length s3.ac) (.slice s3.vo q2.votes.length s3.vc) (.slice s3.wo q2.voters.length s3.wc) (.slice s3.bo q2.best.length s3.bc) 25)).heap.size s3 q2 := liesR_next (rowsS_lies hR3) ((Below.refl _ w3).alloc (Nat.le_refl _) (repO q2 (.slice s3.lo q2.log.length s3.lc) (.slice s3.ao q2.acked.length s3.ac) (.slice s3.vo q2.votes.length s3.vc) (.slice s3.wo q2.voters.length s3.wc) (.slice s3.bo q2.best.length s3.bc) 25)) (by simp); have hlr3 : LiesR (w3.alloc (repO q2 (.slice s3.lo q2.log.length s3.lc) (.slice s3.ao q2.acked.length s3.ac) (.slice s3.vo q2.votes.length s3.vc) (.slice s3.wo q2.voters.length s3.wc) (.slice s3.bo q2.best.length s3.bc) 25)) (w3.alloc (repO q2 (.slice s3.lo q2.log.length s3.lc) (.slice s3.ao q2.acked.length s3.ac) (.slice s3.vo q2.votes.length s3.vc) (.slice s3.wo q2.voters.length s3.wc) (.slice s3.bo q2.best.length s3.bc) 25)).heap.size s q := liesR_next (liesR_next HLR.out hb3 hb3.size) ((Below.refl _ w3).alloc (Nat.le_refl _) (repO q2 (.slice s3.lo q2.log.length s3.lc) (.slice s3.ao q2.acked.length s3.ac) (.slice s3.vo q2.votes.length s3.vc) (.slice s3.wo q2.voters.length s3.wc) (.slice s3.bo q2.best.length s3.bc) 25)) (by simp); have hw3 := below_next hwW2 (Nat.le_refl _) hb3; have hw3a := hw3.alloc hw3.size (repO q2 (.slice s3.lo q2.log.length s3.lc) (.slice s3.ao q2.acked.length s3.ac) (.slice s3.vo q2.votes.length s3.vc) (.slice s3.wo q2.voters.length s3.wc) (.slice s3.bo q2.best.length s3.bc) 25); obtain ⟨x0, x1, x2, x3, x4, x5, x6, x7, x8, x9, x10, x11, x12⟩ := br3.rep (by omega); obtain ⟨v0, v1, v2, v3, v4, v5, v6, v7, v8, v9, v10, v11, v12⟩ := bs3.rep (by omega))
                    | (go_at_call 13; refine (num_any _ _).mono ?_; rintro e wn ⟨rfl, hq⟩; have hq' := hq.symm; clear hq; subst hq')
                    | (go_at_call 8; refine (hmay3 _ _ hls3).mono ?_; rintro e w5 ⟨rfl, hb5⟩; have bs5 := bs3.below hb5; have br5 := br3.below hb5; obtain ⟨y0, y1, y2, y3, y4, y5, y6, y7, y8, y9, y10, y11, y12⟩ := br5.rep (by omega); obtain ⟨t0, t1, t2, t3, t4, t5, t6, t7, t8, t9, t10, t11, t12⟩ := bs5.rep (by omega); have yz := br5.unfrozen))
                  have hw5 := below_next hw3a (Nat.le_refl _) hb5
                  obtain ⟨X1, X2, X3⟩ := goes_end hR3 (((Below.refl _ w3).alloc (Nat.le_refl _) (repO q2 (.slice s3.lo q2.log.length s3.lc) (.slice s3.ao q2.acked.length s3.ac) (.slice s3.vo q2.votes.length s3.vc) (.slice s3.wo q2.voters.length s3.wc) (.slice s3.bo q2.best.length s3.bc) 25)).trans (hb5.mono (by simp))) hgB br5 hw5
                  simp only [sets] at X1 X2 X3
                  go_roundw
                  case rel => exact ⟨k + 1, q2, s3, by omega, by go_num, X1, X2, X3, HG⟩
                  case measure => simp [intOf]; omega
                · subst hE0
                  have hq2' := hq2.symm
                  clear hq2
                  subst hq2'
                  have hsame := fun (W3 : World) (s3 : Sl) (h1 : LiesR W3 W3.heap.size s3 q) (h2 : LiesR W3 W3.heap.size s q) => same_any q s3 s hz1 hz2 hz3 hz4 hz5 W3 h1 h2
                  go_wp2_with (first
                    | (go_at_call 12; refine hT.mono ?_; rintro e w3 ⟨s3, xo, xc, rfl, hR3, hO3, hb3⟩; clear hT; have bs3 : BoxS (w3.alloc (repO q (.slice s3.lo q.log.length s3.lc) (.slice s3.ao q.acked.length s3.ac) (.slice s3.vo q.votes.length s3.vc) (.slice s3.wo q.voters.length s3.wc) (.slice s3.bo q.best.length s3.bc) 25)) w3.heap.size q s3 := box_rep w3 q (.slice s3.lo q.log.length s3.lc) (.slice s3.ao q.acked.length s3.ac) (.slice s3.vo q.votes.length s3.vc) (.slice s3.wo q.voters.length s3.wc) (.slice s3.bo q.best.length s3.bc) undef 25 w3.heap.size rfl; have br3 : BoxS (w3.alloc (repO q (.slice s3.lo q.log.length s3.lc) (.slice s3.ao q.acked.length s3.ac) (.slice s3.vo q.votes.length s3.vc) (.slice s3.wo q.voters.length s3.wc) (.slice s3.bo q.best.length s3.bc) 25)) w.heap.size q s := (HBX.out.below hb3).alloc (repO q (.slice s3.lo q.log.length s3.lc) (.slice s3.ao q.acked.length s3.ac) (.slice s3.vo q.votes.length s3.vc) (.slice s3.wo q.voters.length s3.wc) (.slice s3.bo q.best.length s3.bc) 25); have hls3 : LiesR (w3.alloc (repO q (.slice s3.lo q.log.length s3.lc) (.slice s3.ao q.acked.length s3.ac) (.slice s3.vo q.votes.length s3.vc) (.slice s3.wo q.voters.length s3.wc) (.slice s3.bo q.best.length s3.bc) 25)) (w3.alloc (repO q (.slice s3.lo q.log.length s3.lc) (.slice s3.ao q.acked.length s3.ac) (.slice s3.vo q.votes.length s3.vc) (.slice s3.wo q.voters.length s3.wc) (.slice s3.bo q.best.length s3.bc) 25)).heap.size s3 q := liesR_next (rowsS_lies hR3) ((Below.refl _ w3).alloc (Nat.le_refl _) (repO q (.slice s3.lo q.log.length s3.lc) (.slice s3.ao q.acked.length s3.ac) (.slice s3.vo q.votes.length s3.vc) (.slice s3.wo q.voters.length s3.wc) (.slice s3.bo q.best.length s3.bc) 25)) (by simp); have hlr3 : LiesR (w3.alloc (repO q (.slice s3.lo q.log.length s3.lc) (.slice s3.ao q.acked.length s3.ac) (.slice s3.vo q.votes.length s3.vc) (.slice s3.wo q.voters.length s3.wc) (.slice s3.bo q.best.length s3.bc) 25)) (w3.alloc (repO q (.slice s3.lo q.log.length s3.lc) (.slice s3.ao q.acked.length s3.ac) (.slice s3.vo q.votes.length s3.vc) (.slice s3.wo q.voters.length s3.wc) (.slice s3.bo q.best.length s3.bc) 25)).heap.size s q := liesR_next (liesR_next HLR.out hb3 hb3.size) ((Below.refl _ w3).alloc (Nat.le_refl _) (repO q (.slice s3.lo q.log.length s3.lc) (.slice s3.ao q.acked.length s3.ac) (.slice s3.vo q.votes.length s3.vc) (.slice s3.wo q.voters.length s3.wc) (.slice s3.bo q.best.length s3.bc) 25)) (by simp); have hw3 := below_next hwW2 (Nat.le_refl _) hb3; have hw3a := hw3.alloc hw3.size (repO q (.slice s3.lo q.log.length s3.lc) (.slice s3.ao q.acked.length s3.ac) (.slice s3.vo q.votes.length s3.vc) (.slice s3.wo q.voters.length s3.wc) (.slice s3.bo q.best.length s3.bc) 25); obtain ⟨x0, x1, x2, x3, x4, x5, x6, x7, x8, x9, x10, x11, x12⟩ := br3.rep (by omega); obtain ⟨v0, v1, v2, v3, v4, v5, v6, v7, v8, v9, v10, v11, v12⟩ := bs3.rep (by omega))
                    | (go_at_call 13; refine (num_any _ _).mono ?_; rintro e wn ⟨rfl, hq⟩; have hq' := hq.symm; clear hq; subst hq')
                    | (go_at_call 14; refine (hsame _ _ hls3 hlr3).mono ?_; rintro e w4 ⟨rfl, hb4⟩; have bs4 := bs3.below hb4; have br4 := br3.below hb4; have hls4 := liesR_next hls3 hb4 hb4.size; obtain ⟨p0, p1, p2, p3, p4, p5, p6, p7, p8, p9, p10, p11, p12⟩ := bs4.rep (by omega))
                    | (go_at_call 8; refine (hmay3 _ _ hls4).mono ?_; rintro e w5 ⟨rfl, hb5⟩; have bs5 := bs4.below hb5; have br5 := br4.below hb5; obtain ⟨y0, y1, y2, y3, y4, y5, y6, y7, y8, y9, y10, y11, y12⟩ := br5.rep (by omega); obtain ⟨t0, t1, t2, t3, t4, t5, t6, t7, t8, t9, t10, t11, t12⟩ := bs5.rep (by omega); have yz := br5.unfrozen))
                  have hw5 := below_next (below_next hw3a (Nat.le_refl _) hb4) (Nat.le_refl _) hb5
                  obtain ⟨X1, X2, X3⟩ := goes_end hR3 ((((Below.refl _ w3).alloc (Nat.le_refl _) (repO q (.slice s3.lo q.log.length s3.lc) (.slice s3.ao q.acked.length s3.ac) (.slice s3.vo q.votes.length s3.vc) (.slice s3.wo q.voters.length s3.wc) (.slice s3.bo q.best.length s3.bc) 25)).trans (hb4.mono (by simp))).trans (hb5.mono (by have := hb4.size; simp at this; omega))) hgB br5 hw5
                  simp only [sets] at X1 X2 X3
                  go_roundw
                  case rel => exact ⟨k + 1, q, s3, by omega, by go_num, X1, X2, X3, HG⟩
                  case measure => simp [intOf]; omega
    · have i1 : ¬ (k : Int) < (l1.length : Int) := by omega
      go_wp2_with (first
        | (go_at_call 9; refine (awake_any _).mono ?_; rintro e w9 ⟨rfl, hb9⟩))
      go_ret
      exact ⟨rfl, below_next hbel (Nat.le_refl _) hb9⟩

theorem walk (r0 : Rep) (s0 : Sl) (hok0 : r0.ok) (hwd0 : WideM0 r0) (ao1 : Option Addr) (cap1 : Nat) (l1 : Msgs) (w : World) (hl0 : LiesR w w.heap.size s0 r0) (hl1 : LiesMB w w.heap.size ao1 l1) :
    Calls Tryz.prog 5 #[repV r0 s0, .slice ao1 l1.length cap1] w fun e w' => e = .returned (.bool true) ∧ Below w.heap.size w w' := by
  have hb0 : Below w.heap.size w (w.alloc (repO r0 (.slice s0.lo r0.log.length s0.lc) (.slice s0.ao r0.acked.length s0.ac) (.slice s0.vo r0.votes.length s0.vc) (.slice s0.wo r0.voters.length s0.wc) (.slice s0.bo r0.best.length s0.bc) 25)) := (Below.refl _ w).alloc (Nat.le_refl _) _
  have bx0 := box_rep w r0 (.slice s0.lo r0.log.length s0.lc) (.slice s0.ao r0.acked.length s0.ac) (.slice s0.vo r0.votes.length s0.vc) (.slice s0.wo r0.voters.length s0.wc) (.slice s0.bo r0.best.length s0.bc) undef 25 w.heap.size rfl
  have hla := liesR_next hl0 hb0 hb0.size
  have hG := great_any r0 s0 (w.alloc (repO r0 (.slice s0.lo r0.log.length s0.lc) (.slice s0.ao r0.acked.length s0.ac) (.slice s0.vo r0.votes.length s0.vc) (.slice s0.wo r0.voters.length s0.wc) (.slice s0.bo r0.best.length s0.bc) 25)) hla
  have hM := fun (W : World) (h : LiesR W W.heap.size s0 r0) => rmayW_any r0 s0 hwd0 W h
  cases q1 : greatB r0 with
  | true =>
    rw [q1] at hG
    clear hM q1
    go_enter Tryz.func5, Tryz.ntmps5
    go_wp2_with (first
      | (go_at_call 7; refine hG.mono ?_; rintro e w1 ⟨rfl, hb1⟩; have hw1 := hb0.trans (hb1.mono hb0.size); have bx1 := bx0.below hb1; obtain ⟨a0, a1, a2, a3, a4, a5, a6, a7, a8, a9, a10, a11, a12⟩ := bx1.rep (by omega); have hla1 := liesR_next hla hb1 hb1.size)
      | (go_at_call 9; refine (awake_any _).mono ?_; rintro e w9 ⟨rfl, hb9⟩))
    go_ret
    exact ⟨rfl, below_next hw1 (Nat.le_refl _) hb9⟩
  | false =>
    rw [q1] at hG
    clear q1
    by_cases q2 : 10 < (l1.length : Int)
    · have d2 : decide (10 < (l1.length : Int)) = true := decide_eq_true q2
      clear hM
      go_enter Tryz.func5, Tryz.ntmps5
      go_wp2_with (first
        | (go_at_call 7; refine hG.mono ?_; rintro e w1 ⟨rfl, hb1⟩; have hw1 := hb0.trans (hb1.mono hb0.size); have bx1 := bx0.below hb1; obtain ⟨a0, a1, a2, a3, a4, a5, a6, a7, a8, a9, a10, a11, a12⟩ := bx1.rep (by omega); have hla1 := liesR_next hla hb1 hb1.size)
        | (go_at_call 9; refine (awake_any _).mono ?_; rintro e w9 ⟨rfl, hb9⟩))
      go_ret
      exact ⟨rfl, below_next hw1 (Nat.le_refl _) hb9⟩
    · have d2 : decide (10 < (l1.length : Int)) = false := decide_eq_false q2
      by_cases q3 : May r0
      · rw [tru_yes q3] at hM
        by_cases q4 : 0 < (r0.voters.length : Int)
        · have d4 : decide (0 < r0.voters.length) = true := decide_eq_true (by omega)
          clear q3
          go_enter Tryz.func5, Tryz.ntmps5
          go_wp2_with (first
            | (go_at_call 7; refine hG.mono ?_; rintro e w1 ⟨rfl, hb1⟩; have hw1 := hb0.trans (hb1.mono hb0.size); have bx1 := bx0.below hb1; obtain ⟨a0, a1, a2, a3, a4, a5, a6, a7, a8, a9, a10, a11, a12⟩ := bx1.rep (by omega); have hla1 := liesR_next hla hb1 hb1.size)
            | (go_at_call 8; refine (hM _ hla1).mono ?_; rintro e w2 ⟨rfl, hb2⟩; have hw2 := below_next hw1 (Nat.le_refl _) hb2; have bx2 := bx1.below hb2; obtain ⟨dd0, dd1, dd2, dd3, dd4, dd5, dd6, dd7, dd8, dd9, dd10, dd11, dd12⟩ := bx2.rep (by omega); have hla2 := liesR_next hla1 hb2 hb2.size)
            | (go_at_call 9; refine (awake_any _).mono ?_; rintro e w9 ⟨rfl, hb9⟩))
          go_ret
          exact ⟨rfl, below_next hw2 (Nat.le_refl _) hb9⟩
        · have d4 : decide (0 < r0.voters.length) = false := decide_eq_false (by omega)
          by_cases q5 : 0 < (r0.best.length : Int)
          · have d5 : decide (0 < r0.best.length) = true := decide_eq_true (by omega)
            clear q3
            go_enter Tryz.func5, Tryz.ntmps5
            go_wp2_with (first
              | (go_at_call 7; refine hG.mono ?_; rintro e w1 ⟨rfl, hb1⟩; have hw1 := hb0.trans (hb1.mono hb0.size); have bx1 := bx0.below hb1; obtain ⟨a0, a1, a2, a3, a4, a5, a6, a7, a8, a9, a10, a11, a12⟩ := bx1.rep (by omega); have hla1 := liesR_next hla hb1 hb1.size)
              | (go_at_call 8; refine (hM _ hla1).mono ?_; rintro e w2 ⟨rfl, hb2⟩; have hw2 := below_next hw1 (Nat.le_refl _) hb2; have bx2 := bx1.below hb2; obtain ⟨dd0, dd1, dd2, dd3, dd4, dd5, dd6, dd7, dd8, dd9, dd10, dd11, dd12⟩ := bx2.rep (by omega); have hla2 := liesR_next hla1 hb2 hb2.size)
              | (go_at_call 9; refine (awake_any _).mono ?_; rintro e w9 ⟨rfl, hb9⟩))
            go_ret
            exact ⟨rfl, below_next hw2 (Nat.le_refl _) hb9⟩
          · have HK0 : Hid (May r0 ∧ VotOk r0) := ⟨q3, .inl (List.eq_nil_of_length_eq_zero (by omega))⟩
            clear q3
            exact main r0 s0 hwd0 ao1 cap1 l1 w hl0 hl1 hb0 bx0 hla hG hM q2 q4 q5 HK0
      · rw [tru_no q3] at hM
        clear q3
        go_enter Tryz.func5, Tryz.ntmps5
        go_wp2_with (first
          | (go_at_call 7; refine hG.mono ?_; rintro e w1 ⟨rfl, hb1⟩; have hw1 := hb0.trans (hb1.mono hb0.size); have bx1 := bx0.below hb1; obtain ⟨a0, a1, a2, a3, a4, a5, a6, a7, a8, a9, a10, a11, a12⟩ := bx1.rep (by omega); have hla1 := liesR_next hla hb1 hb1.size)
          | (go_at_call 8; refine (hM _ hla1).mono ?_; rintro e w2 ⟨rfl, hb2⟩; have hw2 := below_next hw1 (Nat.le_refl _) hb2; have bx2 := bx1.below hb2; obtain ⟨dd0, dd1, dd2, dd3, dd4, dd5, dd6, dd7, dd8, dd9, dd10, dd11, dd12⟩ := bx2.rep (by omega); have hla2 := liesR_next hla1 hb2 hb2.size)
          | (go_at_call 9; refine (awake_any _).mono ?_; rintro e w9 ⟨rfl, hb9⟩))
        go_ret
        exact ⟨rfl, below_next hw2 (Nat.le_refl _) hb9⟩

set_option maxRecDepth 100000 in
theorem lifted (os : Os) (started : os.Started) (H : Type) (enc : TypeId × Value → H) :
    ReturnsInHanded {} Tryz.checked os 5 .any (Rows.replicaGoesSpec.pre6 enc Tryz.prog Tryz.f5 Rows.replicaGoesRow.domain false) (Rows.replicaGoesSpec.post enc Tryz.prog Tryz.f5 false true false false) := by
  refine returnsInHanded_of_change (C := Tryz.checked) own started (by kernel_rfl) Tryz.func5
    (ChangeSpec.witness6 (enc := enc) (C := Tryz.checked) false ⟨#[], #[.agg #[.int .i64 0, .int .i64 0, .int .i64 0, .int .i64 0, .int .i64 0, .slice none 0 0, .int .i64 0, .slice none 0 0, .slice none 0 0, .slice none 0 0, .slice none 0 0, .int .i64 0, .int .i64 0], .slice none 0 0], []⟩ 8 (by kernel_rfl) (by kernel_rfl) (by kernel_rfl) (by kernel_rfl)) ?_
  intro W base args ds gs before hval0 hW hcnd _
  have hval : ∀ (j : Nat) t v, Tryz.f5.params[j]? = some t → args[j]? = some v → Value.okWide Tryz.prog W .any base t v := hval0
  have hW' := hW
  have hWk := hW
  obtain ⟨p, q, hA0, hV, rfl, hfz, hnd⟩ := hW
  have hA : DataW.TrodAll enc Tryz.prog W 0 (fun _ => true) true Tryz.f5.params.toList args.toList ds p := hA0
  rw [Tryz.params5] at hA hval
  obtain ⟨v0, vs0, d0, ds0, p0, q0, hargs, rfl, rfl, h0, rt0⟩ := trodAll_cons hA
  obtain ⟨v1, vs1, d1, ds1, p1, q1, rfl, rfl, rfl, h1, rt1⟩ := trodAll_cons rt0
  obtain ⟨rfl, rfl, rfl⟩ := trodAll_nil rt1
  obtain rfl : args = #[v0, v1] := by cases args; simp_all
  obtain ⟨rfl, rfl⟩ := trodVars_none hV
  have hk0 := h0
  obtain ⟨r0, s0, rfl, hok0, hwd0, hlies0⟩ := open_repB (hval 0 25 v0 rfl rfl) h0
  have hlt0 : ∀ x ∈ p0, x.block < W.heap.size := fun x hx => by simpa using hWk.lt x (by simp [hx])
  have hk1 := h1
  obtain ⟨ao1, cap1, l1, rfl, hlies1⟩ := open_msgsB (hval 1 30 v1 rfl rfl) h1
  have hlt1 : ∀ x ∈ p1, x.block < W.heap.size := fun x hx => by simpa using hWk.lt x (by simp [hx])
  clear hA0 hval0
  simp only [List.append_nil] at hW'

  refine (walk r0 s0 hok0 hwd0 ao1 cap1 l1 W hlies0 hlies1).mono fun e W' ⟨he, hg⟩ => ?_
  subst he
  exact ⟨_, rfl, _, _, _, [], _, [], hW', trodAll_cons_mk (shut_bool Tryz.underlying4 _) trodAll_mk0, (trodAll_cons_mk (Below.trod Tryz.laidOut (by kernel_rfl) (of_decide_eq_true (by kernel_rfl)) hk0 hg hlt0) (trodAll_cons_mk (Below.trod Tryz.laidOut (by kernel_rfl) (of_decide_eq_true (by kernel_rfl)) hk1 hg hlt1) trodAll_mk0)), rfl, hg.frame _, fun h => by cases h⟩

theorem over : Rows.replicaGoesRow.holds Tryz.pinned (OpenSpec.ofChange Rows.replicaGoesSpec) :=
  OpenClaim.holds_of_wide 5 Tryz.f5 rfl rfl rfl rfl rfl rfl rfl ⟨rfl, rfl, rfl, rfl, rfl⟩ rfl rfl rfl rfl rfl (by kernel_rfl) Tryz.func5 (by kernel_rfl)
    (of_decide_eq_true (by kernel_rfl)) (by unfold Func.isWrapper; first | (rw [if_pos (by decide +kernel)]; kernel_rfl) | (rw [if_neg (by decide +kernel)]; exact ⟨rfl, rfl⟩))
    (fun os started H enc _ => lifted os started H enc)

theorem proved : Rows.ReplicaGoesSaid :=
  over
#print axioms proved
end Go.Proofs.YtajbdffepfjegaaGreat.replicaGoes
