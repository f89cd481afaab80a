/-
  Replicas as plain data (11.1, 11.2): which may be; what it is to be clear, fresh, normal; what is sent.
-/
import Derived.Test.YthnbaijkhhbelaaGreatMsApp
namespace Go.Proofs.YthnbaijkhhbelaaGreat
open Go.RowKit Num
open scoped Classical
set_option linter.unusedVariables false
set_option maxRecDepth 100000

structure Num.Rep where
  id : Int
  n : Int
  view : Int
  normal : Int
  how : Int
  log : List Ent
  commit : Int
  acked : List Int
  votes : List Int
  voters : List Int
  best : List Ent
  bestView : Int
  bestDone : Int
/-- The time ahead of an entry; the number ahead of one. -/
def Num.prevT (l : List Ent) : Nat → Int
  | 0 => 0
  | i + 1 => match l[i]? with
    | some x => x.time
    | none => 0
def Num.prevI (l : List Int) : Nat → Int
  | 0 => -1
  | i + 1 => match l[i]? with
    | some x => x
    | none => -1
def Num.lastT (l : List Ent) : Int := prevT l l.length
def Num.EntOk (p : Int) (x : Ent) : Prop := p < x.time ∧ x.time < 1099511627776 ∧ x.data.size ≤ 20000
def Num.LogOk (l : List Ent) : Prop := l.length ≤ 1000 ∧ ∀ (i : Nat) x, l[i]? = some x → EntOk (prevT l i) x
def Num.IdsOk (l : List Int) (n : Int) : Prop := ∀ (i : Nat) x, l[i]? = some x → prevI l i < x ∧ x < n
def Num.AckOk (l : List Int) (n m : Int) : Prop := (l.length : Int) = n ∧ ∀ (i : Nat) x, l[i]? = some x → 0 ≤ x ∧ x ≤ m
def Num.OneOf (id n : Int) : Prop := (n = 1 ∨ n = 3 ∨ n = 5) ∧ 0 ≤ id ∧ id < n
def Num.ViewsOk (r : Rep) : Prop := (0 ≤ r.view ∧ r.view < 1099511627776) ∧ (0 ≤ r.normal ∧ r.normal ≤ r.view) ∧ (r.how = 0 ∨ r.how = 1 ∨ r.how = 2) ∧ (r.how = 0 → r.normal = r.view)
def Num.BestOk (r : Rep) : Prop := LogOk r.best ∧ (-1 ≤ r.bestView ∧ r.bestView < 1099511627776) ∧ (0 ≤ r.bestDone ∧ r.bestDone ≤ (r.best.length : Int))
structure Num.May (r : Rep) : Prop where
  one : OneOf r.id r.n
  views : ViewsOk r
  log : LogOk r.log
  com : 0 ≤ r.commit ∧ r.commit ≤ (r.log.length : Int)
  ack : AckOk r.acked r.n (r.log.length : Int)
  votes : IdsOk r.votes r.n
  voters : IdsOk r.voters r.n
  best : BestOk r
theorem prevT_at {l : List Ent} {i : Nat} {x : Ent} (h : l[i]? = some x) : prevT l (i + 1) = x.time := by
  show (match l[i]? with | some x => x.time | none => 0) = x.time
  rw [h]
theorem prevI_at {l : List Int} {i : Nat} {x : Int} (h : l[i]? = some x) : prevI l (i + 1) = x := by
  show (match l[i]? with | some x => x | none => -1) = x
  rw [h]
theorem prevT_in {l : List Ent} (h : ∀ (i : Nat) x, l[i]? = some x → EntOk (prevT l i) x) (i : Nat) : 0 ≤ prevT l i ∧ prevT l i < 1099511627776 := by
  induction i with
  | zero => exact ⟨Int.le_refl _, by show (0 : Int) < _; omega⟩
  | succ i ih =>
    show 0 ≤ (match l[i]? with | some x => x.time | none => 0) ∧ (match l[i]? with | some x => x.time | none => 0) < 1099511627776
    cases hx : l[i]? with
    | none => exact ⟨Int.le_refl _, by show (0 : Int) < _; omega⟩
    | some x =>
      have := h i x hx
      unfold EntOk at this
      exact ⟨by show 0 ≤ x.time; omega, this.2.1⟩
theorem ids_len {l : List Int} {n : Int} (h : IdsOk l n) (hn : 0 ≤ n) : (l.length : Int) ≤ n := by
  have hh : ∀ i, i < l.length → ∀ x, l[i]? = some x → (i : Int) ≤ x := by
    intro i
    induction i with
    | zero =>
      intro hi x hx
      have h2 : (-1 : Int) < x ∧ x < n := h 0 x hx
      omega
    | succ i ih =>
      intro hi x hx
      have h1 := ih (by omega) _ (List.getElem?_eq_getElem (by omega))
      have h2 := h _ x hx
      rw [prevI_at (List.getElem?_eq_getElem (show i < l.length by omega))] at h2
      omega
  by_cases h0 : l.length = 0
  · omega
  · have h1 := hh (l.length - 1) (by omega) _ (List.getElem?_eq_getElem (by omega))
    have h2 := h (l.length - 1) _ (List.getElem?_eq_getElem (by omega))
    omega
/-! What is done with one. -/
def Num.clearR (r : Rep) : Rep := { r with votes := [], voters := [], best := [], bestView := -1, bestDone := 0 }
def Num.ackL (n id : Nat) (k : Int) : List Int := (List.replicate n 0).set id k
def Num.freshR (r : Rep) : Rep := { r with acked := ackL r.n.toNat r.id.toNat (r.log.length : Int) }
def Num.comR (r : Rep) (log : List Ent) (c : Int) : Int := if r.n = 1 then (log.length : Int) else min (max r.commit c) (log.length : Int)
def Num.normalR (r : Rep) (log : List Ent) (view c : Int) : Rep := freshR (clearR { r with view := view, normal := view, how := 0, log := log, commit := comR r log c })
abbrev Num.msg (k i c m : Int) (log : List Ent) : Msg := ⟨k, 0, 0, 0, i, c, m, log⟩
def Num.toM (r : Rep) (m : Msg) (to : Int) : Msg := { m with a1 := r.id, a2 := to, a3 := r.view }
/-- To all others of those from a place on. -/
def Num.restM (r : Rep) (m : Msg) (k : Nat) : Msgs := ((List.range' k (r.n.toNat - k)).filter fun i : Nat => decide ((i : Int) ≠ r.id)).map fun i : Nat => toM r m (i : Int)
def Num.allM (r : Rep) (m : Msg) : Msgs := restM r m 0
def Num.changeR (r : Rep) (v : Int) : Rep := { clearR r with view := v, how := 1, votes := [r.id] }
def Num.raiseR (r : Rep) (c : Int) : Rep := { r with commit := min (max r.commit c) (r.log.length : Int) }
theorem restM_done (r : Rep) (m : Msg) (k : Nat) (h : r.n.toNat ≤ k) : restM r m k = [] := by
  unfold restM
  rw [show r.n.toNat - k = 0 by omega]
  rfl
theorem restM_self (r : Rep) (m : Msg) (k : Nat) (h : k < r.n.toNat) (hk : (k : Int) = r.id) : restM r m k = restM r m (k + 1) := by
  unfold restM
  rw [show r.n.toNat - k = (r.n.toNat - (k + 1)) + 1 by omega, List.range'_succ, List.filter_cons, if_neg (by simp [hk])]
theorem restM_next (r : Rep) (m : Msg) (k : Nat) (h : k < r.n.toNat) (hk : (k : Int) ≠ r.id) : restM r m k = toM r m (k : Int) :: restM r m (k + 1) := by
  unfold restM
  rw [show r.n.toNat - k = (r.n.toNat - (k + 1)) + 1 by omega, List.range'_succ, List.filter_cons, if_pos (by simp [hk])]
  rfl
theorem ackL_len (n id : Nat) (k : Int) : (ackL n id k).length = n := by simp [ackL]
theorem restM_len (r : Rep) (m : Msg) (k : Nat) : (restM r m k).length ≤ r.n.toNat := by
  unfold restM
  rw [List.length_map]
  exact Nat.le_trans (List.length_filter_le _ _) (by rw [List.length_range']; omega)
theorem restM_log {r : Rep} {m : Msg} {k : Nat} {x : Msg} (h : x ∈ restM r m k) : x.log = m.log := by
  unfold restM at h
  obtain ⟨i, _, rfl⟩ := List.mem_map.1 h
  rfl
end Go.Proofs.YthnbaijkhhbelaaGreat
