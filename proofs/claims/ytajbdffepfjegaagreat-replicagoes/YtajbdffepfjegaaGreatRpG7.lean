/-
  Joined:
  Contracts: New, both; are two replicas one; has it more than is gone through; an error's number.
  Contracts: has a replica more than is gone through?
-/
import Derived.Test.YtajbdffepfjegaaGreatRpG3
import Derived.Test.YtajbdffepfjegaaGreatRpMay
import Derived.Test.YtajbdffepfjegaaGreatRpRMay
import Derived.Test.YtajbdffepfjegaaGreatRpG2
import Derived.Test.YtajbdffepfjegaaGreatRpG5
namespace Go.Proofs.YtajbdffepfjegaaGreat
open Go.RowKit Num
open scoped Classical
set_option linter.unusedVariables false
set_option maxRecDepth 100000

theorem num_any (n : Int) (w : World) : Calls Tryz.prog 13 #[.int .i64 n] w fun e w' => e = .returned (.int .i64 n) ∧ w' = w := by
  go_enter Tryz.func13, Tryz.ntmps13
  go_wp2
  go_ret
  exact ⟨rfl, rfl⟩
set_option maxHeartbeats 1000000 in
theorem ints_same (ao0 ao1 : Option Addr) (cap0 cap1 : Nat) (l : List Int) (hlen : l.length ≤ 1000000) (w : World) (hl0 : LiesN w w.heap.size ao0 l) (hl1 : LiesN w w.heap.size ao1 l) :
    Calls Tryz.prog 26 #[.slice ao0 l.length cap0, .slice ao1 l.length cap1] w fun e w' => e = .returned (.bool true) ∧ Below w.heap.size w w' := by
  go_enter Tryz.func26, Tryz.ntmps26
  go_wp2
  go_loopw [5] (fun i wr => ∃ k : Nat, k ≤ l.length ∧ i = .int .i64 (k : Int) ∧ Below w.heap.size w wr) (fun i _ => l.length - (intOf i).toNat)
  case atStart => exact ⟨0, by omega, rfl, Below.refl _ _⟩
  case round =>
    obtain ⟨k, hk, rfl, hbel⟩ := hrel
    by_cases hkl : k < l.length
    · obtain ⟨a0, rfl, hblk0, h0⟩ := (liesN_wide hl0 hbel hbel.size) k l[k] (List.getElem?_eq_getElem hkl)
      obtain ⟨a1, rfl, hblk1, h1⟩ := (liesN_wide hl1 hbel hbel.size) k l[k] (List.getElem?_eq_getElem hkl)
      unfold NumAt at h0 h1
      rw [Nat.mul_one] at h0 h1
      have i1 : (k : Int) < (l.length : Int) := by omega
      have d0 := fun z : Low wr => (z.cell (cell_lt h0)).trans h0
      have d1 := fun z : Low wr => (z.cell (cell_lt h1)).trans h1
      clear h0 h1 hblk0 hblk1 hl0 hl1
      go_wp2_with fail
      refine wp_region_low (by kernel_rfl) (by kernel_rfl) fun hsome => ?_
      repeat (go_big_quiet_step (fail))
      refine wpQuiet_nil ?_
      rintro _ ⟨x, rfl⟩
      have hx := x.low
      go_wp2
      go_roundw
      case rel => exact ⟨k + 1, by omega, by go_num, below_next hbel (Nat.le_refl _) hx⟩
      case measure => simp [intOf]; omega
    · have hke : k = l.length := by omega
      subst hke
      go_wp2
      go_ret
      exact ⟨rfl, hbel⟩
set_option maxRecDepth 100000 in
set_option maxHeartbeats 2000000 in
theorem same_any (r : Rep) (s u : Sl) (h1 : r.log.length ≤ 1000000) (h2 : r.best.length ≤ 1000000) (h3 : r.acked.length ≤ 1000000) (h4 : r.votes.length ≤ 1000000) (h5 : r.voters.length ≤ 1000000) (w : World) (hs : LiesR w w.heap.size s r) (hu : LiesR w w.heap.size u r) :
    Calls Tryz.prog 14 #[repV r s, repV r u] w fun e w' => e = .returned (.bool true) ∧ Below w.heap.size w w' := by
  have hb : Below w.heap.size w ((w.alloc (repO r (.slice s.lo r.log.length s.lc) (.slice s.ao r.acked.length s.ac) (.slice s.vo r.votes.length s.vc) (.slice s.wo r.voters.length s.wc) (.slice s.bo r.best.length s.bc) 25)).alloc (repO r (.slice u.lo r.log.length u.lc) (.slice u.ao r.acked.length u.ac) (.slice u.vo r.votes.length u.vc) (.slice u.wo r.voters.length u.wc) (.slice u.bo r.best.length u.bc) 25)) := ((Below.refl _ w).alloc (Nat.le_refl _) _).alloc (by simp) _
  have bx := (box_rep w r (.slice s.lo r.log.length s.lc) (.slice s.ao r.acked.length s.ac) (.slice s.vo r.votes.length s.vc) (.slice s.wo r.voters.length s.wc) (.slice s.bo r.best.length s.bc) undef 25 w.heap.size rfl).alloc (repO r (.slice u.lo r.log.length u.lc) (.slice u.ao r.acked.length u.ac) (.slice u.vo r.votes.length u.vc) (.slice u.wo r.voters.length u.wc) (.slice u.bo r.best.length u.bc) 25)
  have by0 := box_rep (w.alloc (repO r (.slice s.lo r.log.length s.lc) (.slice s.ao r.acked.length s.ac) (.slice s.vo r.votes.length s.vc) (.slice s.wo r.voters.length s.wc) (.slice s.bo r.best.length s.bc) 25)) r (.slice u.lo r.log.length u.lc) (.slice u.ao r.acked.length u.ac) (.slice u.vo r.votes.length u.vc) (.slice u.wo r.voters.length u.wc) (.slice u.bo r.best.length u.bc) undef 25 (w.heap.size + 1) (by simp)
  have hs0 := liesR_next hs hb hb.size
  have hu0 := liesR_next hu hb hb.size
  have hB0 : Below ((w.alloc (repO r (.slice s.lo r.log.length s.lc) (.slice s.ao r.acked.length s.ac) (.slice s.vo r.votes.length s.vc) (.slice s.wo r.voters.length s.wc) (.slice s.bo r.best.length s.bc) 25)).alloc (repO r (.slice u.lo r.log.length u.lc) (.slice u.ao r.acked.length u.ac) (.slice u.vo r.votes.length u.vc) (.slice u.wo r.voters.length u.wc) (.slice u.bo r.best.length u.bc) 25)).heap.size ((w.alloc (repO r (.slice s.lo r.log.length s.lc) (.slice s.ao r.acked.length s.ac) (.slice s.vo r.votes.length s.vc) (.slice s.wo r.voters.length s.wc) (.slice s.bo r.best.length s.bc) 25)).alloc (repO r (.slice u.lo r.log.length u.lc) (.slice u.ao r.acked.length u.ac) (.slice u.vo r.votes.length u.vc) (.slice u.wo r.voters.length u.wc) (.slice u.bo r.best.length u.bc) 25)) ((w.alloc (repO r (.slice s.lo r.log.length s.lc) (.slice s.ao r.acked.length s.ac) (.slice s.vo r.votes.length s.vc) (.slice s.wo r.voters.length s.wc) (.slice s.bo r.best.length s.bc) 25)).alloc (repO r (.slice u.lo r.log.length u.lc) (.slice u.ao r.acked.length u.ac) (.slice u.vo r.votes.length u.vc) (.slice u.wo r.voters.length u.wc) (.slice u.bo r.best.length u.bc) 25)) := Below.refl _ _
  have g1 := fun W (h : Below ((w.alloc (repO r (.slice s.lo r.log.length s.lc) (.slice s.ao r.acked.length s.ac) (.slice s.vo r.votes.length s.vc) (.slice s.wo r.voters.length s.wc) (.slice s.bo r.best.length s.bc) 25)).alloc (repO r (.slice u.lo r.log.length u.lc) (.slice u.ao r.acked.length u.ac) (.slice u.vo r.votes.length u.vc) (.slice u.wo r.voters.length u.wc) (.slice u.bo r.best.length u.bc) 25)).heap.size ((w.alloc (repO r (.slice s.lo r.log.length s.lc) (.slice s.ao r.acked.length s.ac) (.slice s.vo r.votes.length s.vc) (.slice s.wo r.voters.length s.wc) (.slice s.bo r.best.length s.bc) 25)).alloc (repO r (.slice u.lo r.log.length u.lc) (.slice u.ao r.acked.length u.ac) (.slice u.vo r.votes.length u.vc) (.slice u.wo r.voters.length u.wc) (.slice u.bo r.best.length u.bc) 25)) W) => logs_same s.lo u.lo s.lc u.lc r.log h1 W (liesE_next hs0.log h h.size) (liesE_next hu0.log h h.size)
  have g2 := fun W (h : Below ((w.alloc (repO r (.slice s.lo r.log.length s.lc) (.slice s.ao r.acked.length s.ac) (.slice s.vo r.votes.length s.vc) (.slice s.wo r.voters.length s.wc) (.slice s.bo r.best.length s.bc) 25)).alloc (repO r (.slice u.lo r.log.length u.lc) (.slice u.ao r.acked.length u.ac) (.slice u.vo r.votes.length u.vc) (.slice u.wo r.voters.length u.wc) (.slice u.bo r.best.length u.bc) 25)).heap.size ((w.alloc (repO r (.slice s.lo r.log.length s.lc) (.slice s.ao r.acked.length s.ac) (.slice s.vo r.votes.length s.vc) (.slice s.wo r.voters.length s.wc) (.slice s.bo r.best.length s.bc) 25)).alloc (repO r (.slice u.lo r.log.length u.lc) (.slice u.ao r.acked.length u.ac) (.slice u.vo r.votes.length u.vc) (.slice u.wo r.voters.length u.wc) (.slice u.bo r.best.length u.bc) 25)) W) => logs_same s.bo u.bo s.bc u.bc r.best h2 W (liesE_next hs0.best h h.size) (liesE_next hu0.best h h.size)
  have g3 := fun W (h : Below ((w.alloc (repO r (.slice s.lo r.log.length s.lc) (.slice s.ao r.acked.length s.ac) (.slice s.vo r.votes.length s.vc) (.slice s.wo r.voters.length s.wc) (.slice s.bo r.best.length s.bc) 25)).alloc (repO r (.slice u.lo r.log.length u.lc) (.slice u.ao r.acked.length u.ac) (.slice u.vo r.votes.length u.vc) (.slice u.wo r.voters.length u.wc) (.slice u.bo r.best.length u.bc) 25)).heap.size ((w.alloc (repO r (.slice s.lo r.log.length s.lc) (.slice s.ao r.acked.length s.ac) (.slice s.vo r.votes.length s.vc) (.slice s.wo r.voters.length s.wc) (.slice s.bo r.best.length s.bc) 25)).alloc (repO r (.slice u.lo r.log.length u.lc) (.slice u.ao r.acked.length u.ac) (.slice u.vo r.votes.length u.vc) (.slice u.wo r.voters.length u.wc) (.slice u.bo r.best.length u.bc) 25)) W) => ints_same s.ao u.ao s.ac u.ac r.acked h3 W (liesN_wide hs0.ack h h.size) (liesN_wide hu0.ack h h.size)
  have g4 := fun W (h : Below ((w.alloc (repO r (.slice s.lo r.log.length s.lc) (.slice s.ao r.acked.length s.ac) (.slice s.vo r.votes.length s.vc) (.slice s.wo r.voters.length s.wc) (.slice s.bo r.best.length s.bc) 25)).alloc (repO r (.slice u.lo r.log.length u.lc) (.slice u.ao r.acked.length u.ac) (.slice u.vo r.votes.length u.vc) (.slice u.wo r.voters.length u.wc) (.slice u.bo r.best.length u.bc) 25)).heap.size ((w.alloc (repO r (.slice s.lo r.log.length s.lc) (.slice s.ao r.acked.length s.ac) (.slice s.vo r.votes.length s.vc) (.slice s.wo r.voters.length s.wc) (.slice s.bo r.best.length s.bc) 25)).alloc (repO r (.slice u.lo r.log.length u.lc) (.slice u.ao r.acked.length u.ac) (.slice u.vo r.votes.length u.vc) (.slice u.wo r.voters.length u.wc) (.slice u.bo r.best.length u.bc) 25)) W) => ints_same s.vo u.vo s.vc u.vc r.votes h4 W (liesN_wide hs0.votes h h.size) (liesN_wide hu0.votes h h.size)
  have g5 := fun W (h : Below ((w.alloc (repO r (.slice s.lo r.log.length s.lc) (.slice s.ao r.acked.length s.ac) (.slice s.vo r.votes.length s.vc) (.slice s.wo r.voters.length s.wc) (.slice s.bo r.best.length s.bc) 25)).alloc (repO r (.slice u.lo r.log.length u.lc) (.slice u.ao r.acked.length u.ac) (.slice u.vo r.votes.length u.vc) (.slice u.wo r.voters.length u.wc) (.slice u.bo r.best.length u.bc) 25)).heap.size ((w.alloc (repO r (.slice s.lo r.log.length s.lc) (.slice s.ao r.acked.length s.ac) (.slice s.vo r.votes.length s.vc) (.slice s.wo r.voters.length s.wc) (.slice s.bo r.best.length s.bc) 25)).alloc (repO r (.slice u.lo r.log.length u.lc) (.slice u.ao r.acked.length u.ac) (.slice u.vo r.votes.length u.vc) (.slice u.wo r.voters.length u.wc) (.slice u.bo r.best.length u.bc) 25)) W) => ints_same s.wo u.wo s.wc u.wc r.voters h5 W (liesN_wide hs0.voters h h.size) (liesN_wide hu0.voters h h.size)
  clear hs hu hs0 hu0
  go_enter Tryz.func14, Tryz.ntmps14
  go_wp2_with (first
    | (go_at_call 26; have tk := hBw4; refine (g5 _ hBw4).mono ?_; rintro e w5 ⟨rfl, hbw5⟩; have hBw5 := below_next hBw4 (Nat.le_refl _) hbw5; obtain ⟨c0, c1, c2, c3, c4, c5, c6, c7, c8, c9, c10, c11, c12⟩ := (bx.below hBw5).rep (by omega); obtain ⟨d0, d1, d2, d3, d4, d5, d6, d7, d8, d9, d10, d11, d12⟩ := (by0.below hBw5).rep (by omega))
    | (go_at_call 26; have tk := hBw3; refine (g4 _ hBw3).mono ?_; rintro e w4 ⟨rfl, hbw4⟩; have hBw4 := below_next hBw3 (Nat.le_refl _) hbw4; obtain ⟨c0, c1, c2, c3, c4, c5, c6, c7, c8, c9, c10, c11, c12⟩ := (bx.below hBw4).rep (by omega); obtain ⟨d0, d1, d2, d3, d4, d5, d6, d7, d8, d9, d10, d11, d12⟩ := (by0.below hBw4).rep (by omega))
    | (go_at_call 26; have tk := hBw2; refine (g3 _ hBw2).mono ?_; rintro e w3 ⟨rfl, hbw3⟩; have hBw3 := below_next hBw2 (Nat.le_refl _) hbw3; obtain ⟨c0, c1, c2, c3, c4, c5, c6, c7, c8, c9, c10, c11, c12⟩ := (bx.below hBw3).rep (by omega); obtain ⟨d0, d1, d2, d3, d4, d5, d6, d7, d8, d9, d10, d11, d12⟩ := (by0.below hBw3).rep (by omega))
    | (go_at_call 25; have tk := hBw1; refine (g2 _ hBw1).mono ?_; rintro e w2 ⟨rfl, hbw2⟩; have hBw2 := below_next hBw1 (Nat.le_refl _) hbw2; obtain ⟨c0, c1, c2, c3, c4, c5, c6, c7, c8, c9, c10, c11, c12⟩ := (bx.below hBw2).rep (by omega); obtain ⟨d0, d1, d2, d3, d4, d5, d6, d7, d8, d9, d10, d11, d12⟩ := (by0.below hBw2).rep (by omega))
    | (go_at_call 25; refine (g1 _ hB0).mono ?_; rintro e w1 ⟨rfl, hbw1⟩; have hBw1 := below_next hB0 (Nat.le_refl _) hbw1; obtain ⟨c0, c1, c2, c3, c4, c5, c6, c7, c8, c9, c10, c11, c12⟩ := (bx.below hBw1).rep (by omega); obtain ⟨d0, d1, d2, d3, d4, d5, d6, d7, d8, d9, d10, d11, d12⟩ := (by0.below hBw1).rep (by omega)))
  go_ret
  exact ⟨rfl, hb.trans (hBw5.mono hb.size)⟩
theorem new_no (id n : Int) (h : ¬ OneOf id n) (w : World) : Calls Tryz.prog 20 #[.int .i64 id, .int .i64 n] w fun e w' => e = .returned (.tuple #[repV rep0 ⟨none, 0, none, 0, none, 0, none, 0, none, 0⟩, .int .i64 1]) ∧ Below w.heap.size w w' := by
  have ho := fun W => oneOf_any id n W
  rw [tru_no h] at ho
  clear h
  go_enter Tryz.func20, Tryz.ntmps20
  go_wp2_with (first
    | (go_at_call 30; refine (ho _).mono ?_; rintro e wn ⟨rfl, rfl⟩))
  refine bodyPost_ret (v := .tuple #[repV rep0 ⟨none, 0, none, 0, none, 0, none, 0, none, 0⟩, .int .i64 1]) (by simp [results, Tryz.results20, go_sem, rep0]) rfl ⟨rfl, (Below.refl _ w).alloc (Nat.le_refl _) _⟩
def Num.newR (id n : Int) : Rep := { rep0 with id := id, n := n, acked := List.replicate n.toNat 0, bestView := -1 }
theorem new_lies (w : World) (id n : Int) (hn : n.toNat ≤ 16) (cs : Array Value) (h1 : cs.size = n.toNat) (h2 : cs.toList = List.replicate n.toNat (.int .i64 0)) {g : Nat} (hg : w.heap[g]? = some (.cells cs 3 (0, 0))) : LiesR w w.heap.size ⟨none, 0, some ⟨g, 0, none⟩, n.toNat, none, 0, none, 0, none, 0⟩ (newR id n) :=
  ⟨fun i x hx => by simp [newR, rep0] at hx, fun i x hx => by
    have hi : i < n.toNat := by
      have := (List.getElem?_eq_some_iff.1 hx).1
      simpa [newR] using this
    have hx0 : x = 0 := by
      simp [newR, hi] at hx
      exact hx.symm
    subst hx0
    refine ⟨_, rfl, (Array.getElem?_eq_some_iff.1 hg).1, ?_⟩
    unfold NumAt
    rw [Addr.add_lit, Nat.mul_one, Nat.zero_add]
    refine box_cell hg i _ ?_
    rw [← Array.getElem?_toList, h2, List.getElem?_replicate, if_pos hi], fun i x hx => by simp [newR, rep0] at hx, fun i x hx => by simp [newR, rep0] at hx, fun i x hx => by simp [newR, rep0] at hx⟩
theorem new_yes (id n : Int) (h : OneOf id n) (w : World) : Calls Tryz.prog 20 #[.int .i64 id, .int .i64 n] w fun e w' => ∃ s, e = .returned (.tuple #[repV (newR id n) s, .int .i64 0]) ∧ LiesR w' w'.heap.size s (newR id n) ∧ Below w.heap.size w w' := by
  have hn : 0 ≤ n ∧ n ≤ 16 := by have := h.1; omega
  have ho := fun W => oneOf_any id n W
  rw [tru_yes h] at ho
  obtain ⟨cs, hc1, hc2, hmk⟩ := made_ints n hn
  have hlies := fun (W : World) (g : Nat) hg => new_lies W id n (by omega) cs hc1 hc2 (g := g) hg
  clear h hc1 hc2
  go_enter Tryz.func20, Tryz.ntmps20
  go_wp2_with (first
    | (go_at_call 30; refine (ho _).mono ?_; rintro e wn ⟨rfl, rfl⟩))
  refine bodyPost_ret (v := .tuple #[repV (newR id n) ⟨none, 0, some ⟨w.heap.size + 1, 0, none⟩, n.toNat, none, 0, none, 0, none, 0⟩, .int .i64 0]) (by simp [results, Tryz.results20, go_sem, newR, rep0]) rfl ⟨_, rfl, hlies _ _ (heap_newB _ _ _ (by simp)), ((Below.refl _ w).alloc (Nat.le_refl _) _).alloc (by simp) _⟩
/-- How much 'entries' counts. -/
def Num.entGo : List Ent → Nat → Nat
  | [], n => n
  | x :: l, n => if n ≤ 100000 then entGo l (n + 1 + min x.data.size 100000) else n
def Num.entB (l : List Ent) : Bool := decide (100000 < entGo l 0) || decide (1200 < l.length)
theorem ent_small {l : List Ent} (h : entB l = false) : l.length ≤ 1200 := by
  unfold entB at h
  simp only [Bool.or_eq_false_iff, decide_eq_false_iff_not] at h
  omega
set_option maxRecDepth 100000 in
set_option maxHeartbeats 1000000 in
theorem entries_any (l : List Ent) (ao : Option Addr) (cap : Nat) (w : World) (hl : LiesE w w.heap.size ao l) :
    Calls Tryz.prog 10 #[.slice ao l.length cap] w fun e w' => e = .returned (.bool (entB l)) ∧ w' = w := by
  go_enter Tryz.func10, Tryz.ntmps10
  go_wp2
  go_loop [3, 4] (fun v i => ∃ (k n : Nat), k ≤ l.length ∧ n ≤ 200001 ∧ k ≤ n ∧ i = .int .i64 (k : Int) ∧ v = .int .i64 (n : Int) ∧ Hid (entGo (l.drop k) n = entGo l 0)) (fun _ i => l.length - (intOf i).toNat)
  case atStart => exact ⟨0, 0, by omega, by omega, by omega, rfl, rfl, rfl⟩
  case round =>
    obtain ⟨k, n, hk, hn, hkn, rfl, rfl, HE⟩ := hrel
    by_cases hkl : k < l.length
    · have hdrop : l.drop k = l[k] :: l.drop (k + 1) := List.drop_eq_getElem_cons hkl
      by_cases hn2 : (n : Int) ≤ 100000
      · have HX := List.getElem?_eq_getElem hkl
        obtain ⟨a, rfl, _, c0, c1⟩ := hl k l[k] HX
        have i1 : (k : Int) < (l.length : Int) := by omega
        have HE2 : Hid (entGo (l.drop (k + 1)) (n + 1 + min l[k].data.size 100000) = entGo l 0) := by
          have := HE.out
          rw [hdrop, entGo, if_pos (by omega)] at this
          exact this
        clear hdrop HE
        generalize l[k] = y at *
        obtain ⟨M, hM⟩ : ∃ M : Nat, M = min y.data.size 100000 := ⟨_, rfl⟩
        have hmin : min (y.data.size : Int) 100000 = (M : Int) := by omega
        have hMM : M ≤ 100000 := by omega
        rw [← hM] at HE2
        clear hM HX
        go_wp2
        go_round
        case rel => exact ⟨k + 1, n + 1 + M, by omega, by omega, by omega, by go_num, by go_num, HE2⟩
        case measure => simp [intOf]; omega
      · have hfin : Hid (entB l = true) := by
          have := HE.out
          rw [hdrop, entGo, if_neg (by omega)] at this
          unfold Hid entB
          rw [← this, decide_eq_true (by omega), Bool.true_or]
        have i1 : (k : Int) < (l.length : Int) := by omega
        have i2 : decide ((n : Int) ≤ 100000) = false := decide_eq_false hn2
        have i3 : (100000 : Int) < (n : Int) := by omega
        clear hdrop HE
        go_wp2
        go_ret
        exact ⟨by rw [hfin.out]; rfl, rfl⟩
    · have hke : k = l.length := by omega
      have hg : entGo l 0 = n := by
        have := HE.out
        rw [hke, List.drop_length] at this
        exact this.symm
      have hfin : Hid (entB l = (decide ((100000 : Int) < (n : Int)) || decide ((1200 : Int) < (l.length : Int)))) := by
        unfold Hid entB
        rw [hg]
        congr 1
        · exact decide_eq_decide.2 (by omega)
        · exact decide_eq_decide.2 (by omega)
      clear HE hg
      subst hke
      by_cases hn2 : (100000 : Int) < (n : Int)
      · go_wp2
        go_ret
        exact ⟨by rw [hfin.out, decide_eq_true hn2, Bool.true_or]; rfl, rfl⟩
      · have i2 : decide ((100000 : Int) < (n : Int)) = false := decide_eq_false hn2
        go_wp2
        go_ret
        exact ⟨by rw [hfin.out, i2, Bool.false_or]; rfl, rfl⟩
end Go.Proofs.YtajbdffepfjegaaGreat
namespace Go.Proofs.YtajbdffepfjegaaGreat
open Go.RowKit Num
open scoped Classical
set_option linter.unusedVariables false
set_option maxRecDepth 100000

/-- What 'Great' tells. -/
def Num.greatB (r : Rep) : Bool := entB r.log || entB r.best || decide (20 < (r.acked.length : Int)) || decide (20 < (r.votes.length : Int)) || decide (20 < (r.voters.length : Int))
theorem great_small {r : Rep} (h : greatB r = false) : SmallR r := by
  unfold greatB at h
  simp only [Bool.or_eq_false_iff, decide_eq_false_iff_not] at h
  exact ⟨ent_small h.1.1.1.1, ent_small h.1.1.1.2, by omega, by omega, by omega⟩
set_option maxHeartbeats 1000000 in
theorem great_any (r : Rep) (s : Sl) (w : World) (hl : LiesR w w.heap.size s r) :
    Calls Tryz.prog 7 #[repV r s] w fun e w' => e = .returned (.bool (greatB r)) ∧ Below w.heap.size w w' := by
  have hb := (Below.refl _ w).alloc (Nat.le_refl _) (repO r (.slice s.lo r.log.length s.lc) (.slice s.ao r.acked.length s.ac) (.slice s.vo r.votes.length s.vc) (.slice s.wo r.voters.length s.wc) (.slice s.bo r.best.length s.bc) 25)
  have g1 := entries_any r.log s.lo s.lc (w.alloc (repO r (.slice s.lo r.log.length s.lc) (.slice s.ao r.acked.length s.ac) (.slice s.vo r.votes.length s.vc) (.slice s.wo r.voters.length s.wc) (.slice s.bo r.best.length s.bc) 25)) (liesE_next hl.log hb hb.size)
  have g2 := entries_any r.best s.bo s.bc (w.alloc (repO r (.slice s.lo r.log.length s.lc) (.slice s.ao r.acked.length s.ac) (.slice s.vo r.votes.length s.vc) (.slice s.wo r.voters.length s.wc) (.slice s.bo r.best.length s.bc) 25)) (liesE_next hl.best hb hb.size)
  unfold greatB
  generalize entB r.log = b1 at *
  generalize entB r.best = b2 at *
  clear hl
  cases b1 <;> cases b2
  all_goals
    go_enter Tryz.func7, Tryz.ntmps7
    go_wp2_with (first
      | (go_at_call 10; have tk := g1; refine g1.mono ?_; rintro e wn ⟨rfl, hq⟩; have hq' := hq.symm; clear hq; subst hq'; clear g1 tk)
      | (go_at_call 10; refine g2.mono ?_; rintro e wn ⟨rfl, hq⟩; have hq' := hq.symm; clear hq; subst hq'))
    all_goals
      go_ret
      exact ⟨by simp_all, hb⟩
end Go.Proofs.YtajbdffepfjegaaGreat
