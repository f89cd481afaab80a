/-
  Joined:
  Contracts: a replica in memory of its own.
  Contracts of the document's own replica: a copy; it is clear; its own log alone.
-/
import Derived.Test.YtajbdffepfjegaaGreatRpG4
namespace Go.Proofs.YtajbdffepfjegaaGreat
open Go.RowKit Num
set_option linter.unusedVariables false
set_option maxRecDepth 100000

theorem cloneN_any (bo : Option Addr) (n c : Nat) (cs : List Value) (hlen : n ≤ 10000) (w : World) (hl : Held w bo n 1 cs) :
    Calls Tryz.prog 53 #[.slice bo n c] w fun e w' => ∃ ao1 cap1, e = .returned (.slice ao1 n cap1) ∧ w'.ownsRow w.heap.size 3 1 (.slice ao1 n cap1) n cs ∧ Below w.heap.size w w' := by
  have q22 : ∀ (w : World) (a : Option Addr) (n c n' c' : Nat), (binOp .eql 23 (.slice a n c) (.slice none n' c')).run Tryz.prog w = .ok (.bool a.isNone) w := fun w a n c n' c' => Lib.run_eql_slice_nil w _ _ a n c n' c' Tryz.underlying23
  cases bo with
  | none =>
    obtain rfl := hl.nil rfl
    have hcs : cs = [] := List.eq_nil_of_length_eq_zero (by have := hl.len; omega)
    subst hcs
    go_enter Tryz.func53, Tryz.ntmps53
    go_wp2
    go_ret
    exact ⟨_, _, rfl, World.ownsRow_nil _ _ _ _, Below.refl _ _⟩
  | some a =>
    go_enter Tryz.func53, Tryz.ntmps53
    go_wp2_with (first
      | (at_builtin; refine wpList_app_g Tryz.underlying23 Tryz.infoInt (by decide) _ rfl _ _ rfl w.heap.size (.slice (some ⟨w.heap.size, 0, none⟩) 0 0) 0 [] rfl (own_made0 w _ _) (some a) n c cs rfl (src_next hl ((Below.refl _ w).alloc (Nat.le_refl _) _)) (by omega) (by simp) ?_; intro v1 w1 hown1 hgrow1 hnear1))
    rw [List.nil_append, Nat.zero_add] at hown1
    obtain ⟨ao1, cap1, rfl⟩ := own_form hown1
    go_ret
    exact ⟨_, _, rfl, hown1, below_made hgrow1⟩
/-- Not more than a statement goes through. -/
structure Num.SmallR (r : Rep) : Prop where
  log : r.log.length ≤ 1200
  best : r.best.length ≤ 1200
  ack : r.acked.length ≤ 20
  votes : r.votes.length ≤ 20
  voters : r.voters.length ≤ 20
abbrev Num.RowsS (B : Nat) (w : World) (r : Rep) (s : Sl) : Prop := RowsR B w r.log r.best r.acked r.votes r.voters (.slice s.lo r.log.length s.lc) (.slice s.ao r.acked.length s.ac) (.slice s.vo r.votes.length s.vc) (.slice s.wo r.voters.length s.wc) (.slice s.bo r.best.length s.bc)
set_option maxRecDepth 100000 in
set_option maxHeartbeats 1000000 in
theorem copied_any (r : Rep) (s : Sl) (hsm : SmallR r) (w : World) (hl : LiesR w w.heap.size s r) :
    Calls Tryz.prog 34 #[repV r s] w fun e w' => ∃ s', e = .returned (repV r s') ∧ RowsS w.heap.size w' r s' ∧ Below w.heap.size w w' := by
  have hW0 : ∀ o1 o2 : Obj, Below w.heap.size w ((w.alloc o1).alloc o2) := fun o1 o2 => ((Below.refl _ w).alloc (Nat.le_refl _) o1).alloc (by simp) o2
  have h5 := fun W (hb : Below w.heap.size w W) => cloneE_any s.lo r.log.length s.lc (enCells r.log) (by have := hsm.log; omega) W (src_next (liesE_src hl.log) hb)
  have h10 := fun W (hb : Below w.heap.size w W) => cloneE_any s.bo r.best.length s.bc (enCells r.best) (by have := hsm.best; omega) W (src_next (liesE_src hl.best) hb)
  have h7 := fun W (hb : Below w.heap.size w W) => cloneN_any s.ao r.acked.length s.ac (inCells r.acked) (by have := hsm.ack; omega) W (src_next (liesN_src hl.ack) hb)
  have h8 := fun W (hb : Below w.heap.size w W) => cloneN_any s.vo r.votes.length s.vc (inCells r.votes) (by have := hsm.votes; omega) W (src_next (liesN_src hl.votes) hb)
  have h9 := fun W (hb : Below w.heap.size w W) => cloneN_any s.wo r.voters.length s.wc (inCells r.voters) (by have := hsm.voters; omega) W (src_next (liesN_src hl.voters) hb)
  have bx0 := ((box_rep w r (.slice s.lo r.log.length s.lc) (.slice s.ao r.acked.length s.ac) (.slice s.vo r.votes.length s.vc) (.slice s.wo r.voters.length s.wc) (.slice s.bo r.best.length s.bc) undef 25 w.heap.size rfl).alloc (repO0 25)).drew
  have by0 := (box_rep0 (w.alloc (repO r (.slice s.lo r.log.length s.lc) (.slice s.ao r.acked.length s.ac) (.slice s.vo r.votes.length s.vc) (.slice s.wo r.voters.length s.wc) (.slice s.bo r.best.length s.bc) 25)) undef 25 (w.heap.size + 1) (by simp)).drew
  go_enter Tryz.func34, Tryz.ntmps34
  go_wp2
  rename_i Q0 K0 hK0
  suffices key : ∀ (X : World) (ao1 ao2 : Option Addr) (cap1 cap2 : Nat), BoxF X w.heap.size 25 13 (repF r (.slice ao1 r.log.length cap1) (.slice s.ao r.acked.length s.ac) (.slice s.vo r.votes.length s.vc) (.slice s.wo r.voters.length s.wc) (.slice ao2 r.best.length cap2) undef) → BoxF X (w.heap.size + 1) 25 13 (repF rep0 (.slice none 0 0) (.slice none 0 0) (.slice none 0 0) (.slice none 0 0) (.slice none 0 0) undef) → Below w.heap.size w X → X.ownsRow w.heap.size 48 2 (.slice ao1 r.log.length cap1) r.log.length (enCells r.log) → X.ownsRow w.heap.size 48 2 (.slice ao2 r.best.length cap2) r.best.length (enCells r.best) → Apart (.slice ao1 r.log.length cap1) (.slice ao2 r.best.length cap2) →
      Exit.then K0 Q0 Exit.normal { tmps := #[repV r s, .pointer (some ⟨w.heap.size, 0, none⟩), .pointer (some ⟨w.heap.size + 1, 0, none⟩), .pointer (some ⟨w.heap.size, 5, none⟩), .slice s.lo r.log.length s.lc, .slice ao1 r.log.length cap1, .pointer (some ⟨w.heap.size, 10, none⟩), .slice s.bo r.best.length s.bc, .slice ao2 r.best.length cap2, .pointer (some ⟨w.heap.size, 5, none⟩), .pointer (some ⟨w.heap.size, 10, none⟩), undef, undef, undef, undef, undef, undef, undef, undef, undef, undef, undef, undef, undef], defers := [] } X by
   go_region_law (first
    | (go_simp; go_at_call 52; have tk := hb1; refine (h10 _ hw1).mono ?_; rintro e w2 ⟨ao2, cap2, rfl, hown2, hb2⟩; have hw2 := below_next hw1 (Nat.le_refl _) hb2; have bx2 := bx1.below hb2; have by2 := by1.below hb2; obtain ⟨_, _, _, _, _, d5, _, _, _, _, d10, _, _⟩ := bx2.rep (by omega); have yz := bx2.unfrozen)
    | (go_simp; go_at_call 52; refine (h5 _ ((hW0 _ _).drew)).mono ?_; rintro e w1 ⟨ao1, cap1, rfl, hown1, hb1⟩; have hw1 := below_next ((hW0 _ _).drew) (Nat.le_refl _) hb1; have bx1 := bx0.below hb1; have by1 := by0.below hb1; obtain ⟨_, _, _, _, _, _, _, _, _, _, c10, _, _⟩ := bx1.rep (by omega)))
   all_goals
    have bX : BoxF ((w2.setCell ⟨w.heap.size, 5, none⟩ (.slice ao1 r.log.length cap1)).setCell ⟨w.heap.size, 10, none⟩ (.slice ao2 r.best.length cap2)) w.heap.size 25 13 (repF r (.slice ao1 r.log.length cap1) (.slice s.ao r.acked.length s.ac) (.slice s.vo r.votes.length s.vc) (.slice s.wo r.voters.length s.wc) (.slice ao2 r.best.length cap2) undef) := (sets_box [(5, .slice ao1 r.log.length cap1), (10, .slice ao2 r.best.length cap2)] bx2).1.ext14 (by omega) ⟨rfl, rfl, rfl, rfl, rfl, rfl, rfl, rfl, rfl, rfl, rfl, rfl, rfl, rfl⟩
    have hS : Stay (fun _ => False) 25 w2 ((w2.setCell ⟨w.heap.size, 5, none⟩ (.slice ao1 r.log.length cap1)).setCell ⟨w.heap.size, 10, none⟩ (.slice ao2 r.best.length cap2)) := (sets_box [(5, .slice ao1 r.log.length cap1), (10, .slice ao2 r.best.length cap2)] bx2).2
    have bY : BoxF ((w2.setCell ⟨w.heap.size, 5, none⟩ (.slice ao1 r.log.length cap1)).setCell ⟨w.heap.size, 10, none⟩ (.slice ao2 r.best.length cap2)) (w.heap.size + 1) 25 13 (repF rep0 (.slice none 0 0) (.slice none 0 0) (.slice none 0 0) (.slice none 0 0) (.slice none 0 0) undef) := by2.kept ((Below.heap_setCell _ _ _ _ (by simp)).trans (Below.heap_setCell _ _ _ _ (by simp)))
    have hwX : Below w.heap.size w ((w2.setCell ⟨w.heap.size, 5, none⟩ (.slice ao1 r.log.length cap1)).setCell ⟨w.heap.size, 10, none⟩ (.slice ao2 r.best.length cap2)) := hw2.trans (sets_below (Nat.le_refl _) [(5, .slice ao1 r.log.length cap1), (10, .slice ao2 r.best.length cap2)] w2)
    have hA := own_stay (own_below hown1 hb2) hS (by decide) (fun _ h => h)
    have hB := own_stay hown2 hS (by decide) (fun _ h => h)
    have ap : Apart (.slice ao1 r.log.length cap1) (.slice ao2 r.best.length cap2) := apart_new hown1 hown2
    have hA' := own_mono hA (show w.heap.size ≤ _ by simp; omega)
    have hB' := own_mono hB hw1.size
    exact key _ _ _ _ _ bX bY hwX hA' hB' ap
  clear h5 h10 bx0 by0
  intro X ao1 ao2 cap1 cap2 bX bY hwX hA' hB' ap
  · obtain ⟨_, _, _, _, _, _, _, x7, x8, x9, _, _, _⟩ := bX.rep (by omega)
    go_wp2
    rename_i K1 hK1
    suffices key2 : ∀ (Y : World) (ao7 ao8 ao9 : Option Addr) (cap7 cap8 cap9 : Nat), BoxF Y w.heap.size 25 13 (repF r (.slice ao1 r.log.length cap1) (.slice ao7 r.acked.length cap7) (.slice ao8 r.votes.length cap8) (.slice ao9 r.voters.length cap9) (.slice ao2 r.best.length cap2) undef) → BoxF Y (w.heap.size + 1) 25 13 (repF rep0 (.slice none 0 0) (.slice none 0 0) (.slice none 0 0) (.slice none 0 0) (.slice none 0 0) undef) → Below w.heap.size w Y → RowsR w.heap.size Y r.log r.best r.acked r.votes r.voters (.slice ao1 r.log.length cap1) (.slice ao7 r.acked.length cap7) (.slice ao8 r.votes.length cap8) (.slice ao9 r.voters.length cap9) (.slice ao2 r.best.length cap2) →
        Exit.then K1 Q0 Exit.normal { tmps := #[repV r s, .pointer (some ⟨w.heap.size, 0, none⟩), .pointer (some ⟨w.heap.size + 1, 0, none⟩), .pointer (some ⟨w.heap.size, 5, none⟩), .slice s.lo r.log.length s.lc, .slice ao1 r.log.length cap1, .pointer (some ⟨w.heap.size, 10, none⟩), .slice s.bo r.best.length s.bc, .slice ao2 r.best.length cap2, .pointer (some ⟨w.heap.size, 5, none⟩), .pointer (some ⟨w.heap.size, 10, none⟩), .pointer (some ⟨w.heap.size, 7, none⟩), .slice s.ao r.acked.length s.ac, .slice ao7 r.acked.length cap7, .pointer (some ⟨w.heap.size, 8, none⟩), .slice s.vo r.votes.length s.vc, .slice ao8 r.votes.length cap8, .pointer (some ⟨w.heap.size, 9, none⟩), .slice s.wo r.voters.length s.wc, .slice ao9 r.voters.length cap9, .pointer (some ⟨w.heap.size, 7, none⟩), .pointer (some ⟨w.heap.size, 8, none⟩), .pointer (some ⟨w.heap.size, 9, none⟩), undef], defers := [] } Y by
     go_region_law (first
      | (go_simp; go_at_call 53; have tk := hb8; refine (h9 _ hw8).mono ?_; rintro e w9 ⟨ao9, cap9, rfl, hown9, hb9⟩; have hw9 := below_next hw8 (Nat.le_refl _) hb9; have bx9 := bx8.below hb9; have by9 := by8.below hb9; obtain ⟨_, _, _, _, _, _, _, d7, d8, d9, _, _, _⟩ := bx9.rep (by omega); have yz := bx9.unfrozen)
      | (go_simp; go_at_call 53; have tk := hb7; refine (h8 _ hw7).mono ?_; rintro e w8 ⟨ao8, cap8, rfl, hown8, hb8⟩; have hw8 := below_next hw7 (Nat.le_refl _) hb8; have bx8 := bx7.below hb8; have by8 := by7.below hb8; obtain ⟨_, _, _, _, _, _, _, _, _, f9, _, _, _⟩ := bx8.rep (by omega))
      | (go_simp; go_at_call 53; refine (h7 _ hwX.drew).mono ?_; rintro e w7 ⟨ao7, cap7, rfl, hown7, hb7⟩; have hw7 := below_next hwX.drew (Nat.le_refl _) hb7; have bx7 := bX.drew.below hb7; have by7 := bY.drew.below hb7; obtain ⟨_, _, _, _, _, _, _, _, e8, e9, _, _, _⟩ := bx7.rep (by omega)))
     all_goals
      have hX7 : Below X.heap.size X w7 := below_next (Below.refl _ X).drew (Nat.le_refl _) hb7
      have hR9 : RowsR w.heap.size w9 r.log r.best r.acked r.votes r.voters (.slice ao1 r.log.length cap1) (.slice ao7 r.acked.length cap7) (.slice ao8 r.votes.length cap8) (.slice ao9 r.voters.length cap9) (.slice ao2 r.best.length cap2) :=
        ⟨own_below (own_below (own_below hA' hX7) hb8) hb9, own_below (own_below (own_below hB' hX7) hb8) hb9, own_mono (own_below (own_below hown7 hb8) hb9) hwX.size, own_mono (own_below hown8 hb9) hw7.size, own_mono hown9 hw8.size, ap, apart_new hown7 hown8, apart_new (own_below hown7 hb8) hown9, apart_new hown8 hown9⟩
      have bF : BoxF (((w9.setCell ⟨w.heap.size, 7, none⟩ (.slice ao7 r.acked.length cap7)).setCell ⟨w.heap.size, 8, none⟩ (.slice ao8 r.votes.length cap8)).setCell ⟨w.heap.size, 9, none⟩ (.slice ao9 r.voters.length cap9)) w.heap.size 25 13 (repF r (.slice ao1 r.log.length cap1) (.slice ao7 r.acked.length cap7) (.slice ao8 r.votes.length cap8) (.slice ao9 r.voters.length cap9) (.slice ao2 r.best.length cap2) undef) := (sets_box [(7, .slice ao7 r.acked.length cap7), (8, .slice ao8 r.votes.length cap8), (9, .slice ao9 r.voters.length cap9)] bx9).1.ext14 (by omega) ⟨rfl, rfl, rfl, rfl, rfl, rfl, rfl, rfl, rfl, rfl, rfl, rfl, rfl, rfl⟩
      have hRF : RowsR w.heap.size (((w9.setCell ⟨w.heap.size, 7, none⟩ (.slice ao7 r.acked.length cap7)).setCell ⟨w.heap.size, 8, none⟩ (.slice ao8 r.votes.length cap8)).setCell ⟨w.heap.size, 9, none⟩ (.slice ao9 r.voters.length cap9)) r.log r.best r.acked r.votes r.voters (.slice ao1 r.log.length cap1) (.slice ao7 r.acked.length cap7) (.slice ao8 r.votes.length cap8) (.slice ao9 r.voters.length cap9) (.slice ao2 r.best.length cap2) := hR9.stay (sets_box [(7, .slice ao7 r.acked.length cap7), (8, .slice ao8 r.votes.length cap8), (9, .slice ao9 r.voters.length cap9)] bx9).2 (by decide) (by decide)
      have hwF : Below w.heap.size w (((w9.setCell ⟨w.heap.size, 7, none⟩ (.slice ao7 r.acked.length cap7)).setCell ⟨w.heap.size, 8, none⟩ (.slice ao8 r.votes.length cap8)).setCell ⟨w.heap.size, 9, none⟩ (.slice ao9 r.voters.length cap9)) := hw9.trans (sets_below (Nat.le_refl _) [(7, .slice ao7 r.acked.length cap7), (8, .slice ao8 r.votes.length cap8), (9, .slice ao9 r.voters.length cap9)] w9)
      have bYF : BoxF (((w9.setCell ⟨w.heap.size, 7, none⟩ (.slice ao7 r.acked.length cap7)).setCell ⟨w.heap.size, 8, none⟩ (.slice ao8 r.votes.length cap8)).setCell ⟨w.heap.size, 9, none⟩ (.slice ao9 r.voters.length cap9)) (w.heap.size + 1) 25 13 (repF rep0 (.slice none 0 0) (.slice none 0 0) (.slice none 0 0) (.slice none 0 0) (.slice none 0 0) undef) := by9.kept (((Below.heap_setCell _ _ _ _ (by simp)).trans (Below.heap_setCell _ _ _ _ (by simp))).trans (Below.heap_setCell _ _ _ _ (by simp)))
      exact key2 _ _ _ _ _ _ _ bF bYF hwF hRF
    clear bX bY hwX hA' hB' ap h7 h8 h9 hW0 x7 x8 x9
    intro Y ao7 ao8 ao9 cap7 cap8 cap9 bF bYF hwF hRF
    · obtain ⟨c0, c1, c2, c3, c4, c5, c6, c7, c8, c9, c10, c11, c12⟩ := bF.rep (by omega)
      obtain ⟨r0, r1, r2, r3, r4, r5, r6, r7, r8, r9, r10, r11, r12⟩ := bYF.rep (by omega)
      have zY := bYF.unfrozen
      have bG := box_whole bYF (by omega) r (.slice ao1 r.log.length cap1) (.slice ao7 r.acked.length cap7) (.slice ao8 r.votes.length cap8) (.slice ao9 r.voters.length cap9) (.slice ao2 r.best.length cap2)
      have hRG := hRF.stay (sets_box [(0, .int .i64 r.id), (1, .int .i64 r.n), (2, .int .i64 r.view), (3, .int .i64 r.normal), (4, .int .i64 r.how), (5, .slice ao1 r.log.length cap1), (6, .int .i64 r.commit), (7, .slice ao7 r.acked.length cap7), (8, .slice ao8 r.votes.length cap8), (9, .slice ao9 r.voters.length cap9), (10, .slice ao2 r.best.length cap2), (11, .int .i64 r.bestView), (12, .int .i64 r.bestDone)] bYF).2 (by decide) (by decide)
      have hwG := hwF.trans (sets_below (Nat.le_succ _) [(0, .int .i64 r.id), (1, .int .i64 r.n), (2, .int .i64 r.view), (3, .int .i64 r.normal), (4, .int .i64 r.how), (5, .slice ao1 r.log.length cap1), (6, .int .i64 r.commit), (7, .slice ao7 r.acked.length cap7), (8, .slice ao8 r.votes.length cap8), (9, .slice ao9 r.voters.length cap9), (10, .slice ao2 r.best.length cap2), (11, .int .i64 r.bestView), (12, .int .i64 r.bestDone)] Y)
      simp only [sets] at bG hRG hwG
      obtain ⟨g0, g1, g2, g3, g4, g5, g6, g7, g8, g9, g10, g11, g12⟩ := bG.rep (by omega)
      clear bF bYF bG hRF hwF
      go_wp2
      refine bodyPost_ret (v := repV r ⟨ao1, cap1, ao7, cap7, ao8, cap8, ao9, cap9, ao2, cap2⟩) (by simp [results, Tryz.results34, go_sem, g0, g1, g2, g3, g4, g5, g6, g7, g8, g9, g10, g11, g12]) rfl ⟨_, rfl, hRG, hwG⟩
end Go.Proofs.YtajbdffepfjegaaGreat
namespace Go.Proofs.YtajbdffepfjegaaGreat
open Go.RowKit Num
set_option linter.unusedVariables false
set_option maxRecDepth 100000

/-- The document's own replica, in a box of its own. -/
structure Num.TurnR (B : Nat) (w : World) (g : Nat) (r : Rep) : Prop where
  ex : ∃ vl va vv vw vb, Hold 25 13 undef B w g r vl va vv vw vb
  base : B ≤ w.heap.size
  one : OneOf r.id r.n
  ll : r.log.length ≤ 1000
  bl : r.best.length ≤ 1000
  al : (r.acked.length : Int) = r.n
theorem Num.TurnR.below {B : Nat} {w w' : World} {g : Nat} {r : Rep} (h : TurnR B w g r) (hb : Below w.heap.size w w') : TurnR B w' g r := by
  obtain ⟨⟨vl, va, vv, vw, vb, h⟩, hB, h1, hl, hl2, ha⟩ := h
  exact ⟨⟨vl, va, vv, vw, vb, h.below hb⟩, Nat.le_trans hB hb.size, h1, hl, hl2, ha⟩
theorem Num.TurnR.drew {B : Nat} {w : World} {g : Nat} {r : Rep} (h : TurnR B w g r) : TurnR B w.drew g r := h.below (Below.refl _ _).drew
set_option maxHeartbeats 1000000 in
theorem rclear_any (B g : Nat) (r : Rep) (w : World) (h : TurnR B w g r) :
    Calls Tryz.prog 73 #[.pointer (some ⟨g, 0, none⟩)] w fun e w' => e = .returned (.tuple #[]) ∧ TurnR B w' g (clearR r) ∧ Keep B w w' := by
  obtain ⟨⟨vl, va, vv, vw, vb, h⟩, hB, h1, hl, hb, ha⟩ := h
  obtain ⟨k0, k1, k2, k3, k4, k5, k6, k7, k8, k9, k10, k11, k12⟩ := h.cells (by omega)
  have z := h.box.unfrozen
  have hh := hold_sets h (by omega) (by decide) (by decide) [(8, .slice none 0 0), (9, .slice none 0 0), (10, .slice none 0 0), (11, .int .i64 (-1)), (12, .int .i64 0)] (r' := clearR r) (vl' := vl) (va' := va) (vv' := .slice none 0 0) (vw' := .slice none 0 0) (vb' := .slice none 0 0) (x' := undef)
    ⟨h.rows.log, World.ownsRow_nil _ _ _ _, h.rows.ack, World.ownsRow_nil _ _ _ _, World.ownsRow_nil _ _ _ _, apart_nil _, apart_nil _, apart_nil _, apart_nil _⟩ (fun f f' e e' => by subst e e'; exact ⟨rfl, rfl, rfl, rfl, rfl, rfl, rfl, rfl, rfl, rfl, rfl, rfl, rfl, rfl⟩)
  have hk := sets_keep h.base h.box (by decide) [(8, .slice none 0 0), (9, .slice none 0 0), (10, .slice none 0 0), (11, .int .i64 (-1)), (12, .int .i64 0)]
  have hT : TurnR B _ g (clearR r) := ⟨⟨_, _, _, _, _, hh⟩, Nat.le_trans hB hk.low.size, h1, hl, Nat.zero_le _, ha⟩
  clear hh h
  go_enter Tryz.func73, Tryz.ntmps73
  go_wp2
  go_end0
  exact ⟨rfl, hT, hk⟩
set_option maxHeartbeats 1000000 in
theorem rfresh_any (B g : Nat) (r : Rep) (w : World) (h : TurnR B w g r) :
    Calls Tryz.prog 92 #[.pointer (some ⟨g, 0, none⟩)] w fun e w' => e = .returned (.tuple #[]) ∧ TurnR B w' g (freshR r) ∧ Keep B w w' := by
  have hn := one_bounds h.one
  obtain ⟨⟨vl, va, vv, vw, vb, h⟩, hB, h1, hl, hb, ha⟩ := h
  obtain ⟨cs, hc1, hc2, hmk⟩ := made_ints r.n ⟨by omega, by omega⟩
  have hbel := (Below.refl _ w).alloc (Nat.le_refl _) (.cells cs 3)
  have hz := own_zeros w r.n.toNat (by omega) cs hc1 hc2
  have hA := h.below hbel
  have hrw : RowsR B (w.alloc (.cells cs 3)) r.log r.best (List.replicate r.n.toNat 0) r.votes r.voters vl (.slice (some ⟨w.heap.size, 0, none⟩) r.n.toNat r.n.toNat) vv vw vb :=
    ⟨hA.rows.log, hA.rows.best, by rw [inCells_rep, List.length_replicate]; exact own_mono hz hB, hA.rows.vot, hA.rows.vor, hA.rows.a1, (apart_new h.rows.vot hz).symm, (apart_new h.rows.vor hz).symm, hA.rows.a4⟩
  have hS := hold_sets hA (by omega) (by decide) (by decide) [(7, .slice (some ⟨w.heap.size, 0, none⟩) r.n.toNat r.n.toNat)] (r' := { r with acked := List.replicate r.n.toNat 0 }) (x' := undef) hrw (fun f f' e e' => by subst e e'; exact ⟨rfl, rfl, rfl, rfl, rfl, rfl, rfl, rfl, rfl, rfl, rfl, rfl, rfl, rfl⟩)
  have hkS := (Keep.of_below hbel hB).trans (sets_keep hA.base hA.box (by decide) [(7, .slice (some ⟨w.heap.size, 0, none⟩) r.n.toNat r.n.toNat)])
  obtain ⟨hF, hsF, hkF⟩ := hold_ack hS (by simp) (by decide) (Nat.le_trans hB hkS.low.size) r.id.toNat (r.log.length : Int)
  have hT : TurnR B _ g (freshR r) := ⟨⟨_, _, _, _, _, hF⟩, Nat.le_trans hB (hkS.trans hkF).low.size, h1, hl, hb, by show (((List.replicate r.n.toNat 0).set r.id.toNat (r.log.length : Int)).length : Int) = r.n; rw [List.length_set, List.length_replicate]; omega⟩
  have hK := hkS.trans hkF
  obtain ⟨k0, k1, k2, k3, k4, k5, k6, k7, k8, k9, k10, k11, k12⟩ := h.cells (by omega)
  obtain ⟨s0, s1, s2, s3, s4, s5, s6, s7, s8, s9, s10, s11, s12⟩ := hS.cells (by omega)
  have z7 := hA.box.unfrozen 7
  have a7 := hA.box.cell 7 (by omega)
  have ca := hS.rows.ack.cells (g := w.heap.size) rfl r.id.toNat (.int .i64 0) (by rw [inCells_rep, List.getElem?_replicate, if_pos (by omega)])
  have za := hS.rows.ack
  rw [List.length_replicate] at za
  have za := za.frozenAt r.id.toNat
  rw [Addr.add_lit, Nat.zero_add] at ca
  obtain ⟨lo, lc, rfl, _⟩ := ownE_lies h.rows.log
  have n1 : r.id < ((r.n.toNat : Nat) : Int) := by omega
  have n2 : ¬ r.id < 0 := by omega
  simp only [sets] at s0 s5 s7 ca za hT hK
  clear hF hS hA hrw hz hkS hkF hsF h
  go_enter Tryz.func92, Tryz.ntmps92
  go_wp2
  go_region
  go_end0
  exact ⟨rfl, hT.drew, hK.drew⟩
end Go.Proofs.YtajbdffepfjegaaGreat
