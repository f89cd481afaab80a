/-
  Contracts of a replica at work: it proposes (11.3).
-/
import Derived.Test.YthnbaijkhhbelaaGreatRpTc
import Derived.Test.YthnbaijkhhbelaaGreatRpMay
namespace Go.Proofs.YthnbaijkhhbelaaGreat
open Go.RowKit Num
open scoped Classical
set_option linter.unusedVariables false
set_option maxRecDepth 100000

/-- An entry is appended to the log, nothing being sent yet. -/
theorem app_en {t : TypeId} {N : Nat} {x : Value} {B : Nat} {W : World} {g : Nat} {r : Rep} {vl va vv vw vb : Value} (h : Hold t N x B W g r vl va vv vw vb) (hN : N ≤ 14) (hE : t ≠ 78) (hI : t ≠ 3) (hB : B ≤ W.heap.size) (hlen : r.log.length ≤ 1000) (more : List Ent) (hm : more.length ≤ 1000) (bo : Option Addr) (c : Nat) (hheld : Held W bo more.length 2 (enCells more)) (ty : TypeId) :
    ∃ v' w', (Builtin.append_ #[44, 44] ty #[vl, .slice bo more.length c]).run Tryz.prog W = .ok v' w' ∧
      (∃ ao cap, v' = .slice ao (r.log ++ more).length cap) ∧ BoxF w' g t N (repF r vl va vv vw vb x) ∧
      Hold t N x B (w'.setCell ⟨g, 5, none⟩ v') g { r with log := r.log ++ more } v' va vv vw vb ∧ Stay (fun _ => False) 78 W w' ∧ Below B W w' ∧ (∀ k, k < W.heap.size → vl.ownBlock ≠ some k → w'.heap[k]? = W.heap[k]?) := by
  obtain ⟨v', w', hr, h2, h3, h4⟩ := run_app_g Tryz.underlying44 Tryz.infoEn (by decide) W ty B vl _ _ h.rows.log bo more.length c _ hheld (by omega) hB
  have hs : Stay (fun _ => False) 78 W w' := Stay.grown h.rows.log h3
  have hbx := h.box.stay hs hE
  have hcl : (enCells r.log ++ enCells more) = enCells (r.log ++ more) := by simp [enCells]
  rw [hcl, ← List.length_append] at h2
  have hbest := h.rows.best.kept h3 (by
    cases hvb : vb.ownBlock with
    | none => exact .inl rfl
    | some k => exact .inr (fun e => h.rows.a1 k e.symm hvb))
  have ha1 : Apart v' vb := fun k k1 k2 => by
    rcases h4 with e | ⟨q, e, hq⟩
    · rw [e] at k1
      exact h.rows.a1 k k1 k2
    · rw [e] at k1
      cases k1
      have := (h.rows.best.lt _ k2).2
      omega
  have hform := own_form h2
  refine ⟨v', w', hr, hform, hbx, ⟨((sets_box [(5, v')] hbx).1).ext14 hN ⟨rfl, rfl, rfl, rfl, rfl, rfl, rfl, rfl, rfl, rfl, rfl, rfl, rfl, rfl⟩, h.base, RowsR.stay ⟨h2, hbest, own_stay h.rows.ack hs (by decide) (fun _ h => h), own_stay h.rows.vot hs (by decide) (fun _ h => h), own_stay h.rows.vor hs (by decide) (fun _ h => h), ha1, h.rows.a2, h.rows.a3, h.rows.a4⟩ (sets_box [(5, v')] hbx).2 hE hI⟩, hs, (Below.refl B W).grown h3 hB (fun j hj => (h.rows.log.lt j hj).1), fun k hk hn => h3.block k hk (fun e => hn e.symm)⟩
def Num.propT (r : Rep) (time : Int) : Int := max (max time 1) (lastT r.log + 1)
def Num.propR (r : Rep) (e : Ent) : Rep := { r with log := r.log ++ [e], acked := r.acked.set r.id.toNat ((r.log.length + 1 : Nat) : Int), commit := if r.n = 1 then ((r.log.length + 1 : Nat) : Int) else r.commit }
def Num.propM (r : Rep) (e : Ent) : Msgs := allM (propR r e) (msg 1 ((r.log.length + 1 : Nat) : Int) (propR r e).commit 0 [e])
theorem prop_arg (B g : Nat) (r : Rep) (o : Msgs) (time : Int) (d : ByteArray) (w : World) (h : Turn B w g r o) (hno : ¬ ((0 ≤ time ∧ time ≤ 1099511627775) ∧ d.size ≤ 20000)) :
    Calls Tryz.prog 76 #[.pointer (some ⟨g, 0, none⟩), .int .i64 time, .string d] w fun e w' => e = .panicked (boom 1) ∧ w' = w := by
  have hm := fun W => must_no 1 W
  have hf := fun W => isFrom_any 0 time 1099511627775 W
  clear h
  by_cases q : 0 ≤ time ∧ time ≤ 1099511627775
  · rw [tru_yes q] at hf
    have q2 : ¬ (d.size : Int) ≤ 20000 := fun e => hno ⟨q, by omega⟩
    have q3 : decide ((d.size : Int) ≤ 20000) = false := decide_eq_false q2
    clear hno q
    go_enter Tryz.func76, Tryz.ntmps76
    go_wp2_with (first
      | (go_at_call 84; refine (hf _).mono ?_; rintro e wn ⟨rfl, hq⟩; have hq' := hq.symm; clear hq; subst hq')
      | (go_at_call 105; refine (hm _).mono ?_; rintro e wn ⟨rfl, hq⟩; have hq' := hq.symm; clear hq; subst hq'))
    exact ⟨rfl, rfl, rfl⟩
  · rw [tru_no q] at hf
    clear hno q
    go_enter Tryz.func76, Tryz.ntmps76
    go_wp2_with (first
      | (go_at_call 84; refine (hf _).mono ?_; rintro e wn ⟨rfl, hq⟩; have hq' := hq.symm; clear hq; subst hq')
      | (go_at_call 105; refine (hm _).mono ?_; rintro e wn ⟨rfl, hq⟩; have hq' := hq.symm; clear hq; subst hq'))
    exact ⟨rfl, rfl, rfl⟩
theorem prop_prim (B g : Nat) (r : Rep) (o : Msgs) (time : Int) (d : ByteArray) (w : World) (h : Turn B w g r o) (hv : 0 ≤ r.view ∧ r.view < 1099511627776) (hyes : (0 ≤ time ∧ time ≤ 1099511627775) ∧ d.size ≤ 20000) (hno : ¬ (r.how = 0 ∧ r.view % r.n = r.id)) :
    Calls Tryz.prog 76 #[.pointer (some ⟨g, 0, none⟩), .int .i64 time, .string d] w fun e w' => e = .panicked (boom 17) ∧ Below w.heap.size w w' := by
  have hm := fun W => must_yes 1 W
  have hm2 := fun W => must_no 17 W
  have hf := fun W => isFrom_any 0 time 1099511627775 W
  have hL := leadsT_any B g r o w h hv
  rw [← Bool.decide_and, decide_eq_false hno] at hL
  rw [tru_yes hyes.1] at hf
  have q2 : (d.size : Int) ≤ 20000 := by have := hyes.2; omega
  clear h hyes hno
  go_enter Tryz.func76, Tryz.ntmps76
  go_wp2_with (first
    | (go_at_call 84; refine (hf _).mono ?_; rintro e wn ⟨rfl, hq⟩; have hq' := hq.symm; clear hq; subst hq')
    | (go_at_call 105; have tk := hm; refine (hm _).mono ?_; rintro e wn ⟨rfl, hq⟩; have hq' := hq.symm; clear hq; subst hq'; clear hm tk)
    | (go_at_call 107; refine hL.mono ?_; rintro e w1 ⟨rfl, hb1⟩)
    | (go_at_call 105; refine (hm2 _).mono ?_; rintro e wn ⟨rfl, hq⟩; have hq' := hq.symm; clear hq; subst hq'))
  exact ⟨rfl, rfl, hb1⟩
theorem ownO_nil_stay {B : Nat} {w w' : World} {v : Value} (h : OwnO B w v []) {e : TypeId} (hs : Stay (fun _ => False) e w w') (h1 : 89 ≠ e) : OwnO B w' v [] := by
  obtain ⟨css, a, b, c, d⟩ := h
  exact ⟨css, a, b, own_stay c hs h1 (fun _ h => h), fun i cs x _ hx => by simp at hx⟩
theorem own_someV {w : World} {B e sz n : Nat} {v : Value} {xs : List Value} (h : w.ownsRow B e sz v n xs) (hn : n ≠ 0) : ∃ g C, v = .slice (some ⟨g, 0, none⟩) n C := by
  rcases h.2 with ⟨_, h0⟩ | ⟨g, cap, cur, hv, _⟩
  · exact absurd h0 hn
  · exact ⟨g, cap, hv⟩
theorem en_cells (w : World) (e : Ent) : Held (w.alloc (.cells #[.int .i64 e.time, .string e.data] 78)).drew (some ⟨w.heap.size, 0, none⟩) [e].length 2 (enCells [e]) :=
  ⟨rfl, enCells_one _, fun h => (by cases h), fun a h j u hj => by cases h; exact new_cells w 78 [.int .i64 e.time, .string e.data] _ rfl j u hj⟩
theorem own_en (w : World) (e : Ent) : (w.alloc (.cells #[.int .i64 e.time, .string e.data] 78)).ownsRow w.heap.size 78 2 (.slice (some ⟨w.heap.size, 0, none⟩) [e].length 1) [e].length (enCells [e]) :=
  ⟨rfl, .inr ⟨w.heap.size, 1, _, rfl, Nat.le_refl _, heap_new w _, Nat.le_refl _, by unfold maxLen; omega, rfl, rfl⟩⟩
end Go.Proofs.YthnbaijkhhbelaaGreat
