/-
  What TxnOwn asks, plainly: keys from k on, below k with a byte 00 behind, are k alone; a Put is told, a Del is not.
-/
import Derived.Test.YtdmkmhjalcfchaaTxC
import Derived.Test.YtdmkmhjalcfchaaTxK
namespace Go.Proofs.Ytdmkmhjalcfchaa
open Num
open scoped Classical
set_option linter.unusedVariables false
set_option maxRecDepth 100000

theorem bl_zero : ∀ x k : List UInt8, Op.bytesLess x (k ++ [0]) = true → Op.bytesLess x k = false → x = k
  | [], [], _, _ => rfl
  | [], _ :: _, _, h => by simp [Op.bytesLess] at h
  | a :: x, [], h, _ => by
    have h1 : Op.bytesLess (a :: x) [0] = true := h
    simp only [Op.bytesLess, Bool.or_eq_true, Bool.and_eq_true, decide_eq_true_eq] at h1
    rcases h1 with h1 | ⟨_, h1⟩
    · simp only [UInt8.lt_iff_toNat_lt] at h1
      exact absurd h1 (Nat.not_lt_zero _)
    · cases h1
  | a :: x, b :: k, h, h' => by
    have h1 : Op.bytesLess (a :: x) (b :: (k ++ [0])) = true := h
    simp only [Op.bytesLess, Bool.or_eq_true, Bool.and_eq_true, decide_eq_true_eq, beq_iff_eq] at h1
    rcases h1 with h1 | ⟨rfl, h1⟩
    · simp [Op.bytesLess, h1] at h'
    · have h2 : Op.bytesLess x k = false := by
        simpa [Op.bytesLess] using h'
      rw [bl_zero x k h1 h2]
theorem bl_more : ∀ k : List UInt8, Op.bytesLess k (k ++ [0]) = true
  | [] => rfl
  | b :: k => by
    show Op.bytesLess (b :: k) (b :: (k ++ [0])) = true
    simp [Op.bytesLess, bl_more k]
theorem zero_list (k : ByteArray) : (zeroB k).toList = k.toList ++ [0] := by
  rw [Lib.toList_data, Lib.toList_data]
  simp [zeroB]
theorem zero_not (k : ByteArray) : (zeroB k).toList.isEmpty = false := by
  rw [zero_list]
  cases k.toList <;> rfl
theorem only_k {k x : ByteArray} : withinB x k (zeroB k) = true ↔ x = k := by
  unfold withinB
  rw [zero_not, zero_list]
  constructor
  · intro h
    simp only [Bool.false_or, Bool.and_eq_true, Bool.not_eq_true'] at h
    have := bl_zero _ _ h.2 h.1
    rw [Lib.toList_data, Lib.toList_data] at this
    exact ByteArray.ext (Array.ext' this)
  · rintro rfl
    rw [bl_irr, bl_more]
    rfl
theorem own_one_w {k : ByteArray} (x : Wrt) (hx : x.key = k) : ownW [x] k (zeroB k) = [x] := by
  unfold ownW
  rw [List.filter_cons_of_pos (by rw [hx]; exact only_k.2 rfl)]
  rfl
theorem scan_k {vs : List Ver} {t : Int} {k : ByteArray} {r : List Pr} (h : ScanIs vs t k (zeroB k) r) (x : Wrt) (hx : x.key = k) : mrg r [x] = tellW x := by
  have hk : ∀ p ∈ r, p.key = k := fun p hp => only_k.1 ((h.2 p).1 hp).1
  have h0 : mrg [] [x] = tellW x := by rw [mrg_left, mrg_nil, List.append_nil]
  match r, h.1, hk with
  | [], _, _ => exact h0
  | [p], _, hk => rw [mrg_same (by rw [hx, hk p (by simp)]), h0]
  | p :: q :: r, hr, hk =>
    unfold Rises at hr
    rw [List.pairwise_cons] at hr
    have := hr.1 q (by simp)
    rw [hk p (by simp), hk q (by simp)] at this
    exact (kl_irr k this).elim
/-! A transaction that put k, and deleted it. -/
def Num.tx0 (st : Sto) : Tx := ⟨st, 1000, [], [], [], 0⟩
def Num.wP (k v : ByteArray) : Wrt := ⟨k, v, false⟩
def Num.wD (k : ByteArray) : Wrt := ⟨k, ⟨#[]⟩, true⟩
theorem find_one (x : Wrt) : findW [x] x.key = some x := findW_mem (by simp [UpW]) (by simp)
theorem put_put (k v : ByteArray) : putW [wP k v] (wD k) = [wD k] := by
  have h : ¬ Op.bytesLess k.toList k.toList = true := kl_irr k
  unfold putW wP wD
  simp only
  rw [if_neg h, if_neg h]
/-- What is known of it. -/
structure Num.OwnT (t : Tx) (st : Sto) (x : Wrt) (n : Nat) : Prop where
  st : t.st = st
  snap : t.snap = 1000
  asked : t.asked = []
  ws : t.ws = [x]
  lim : t.lim ≤ n
theorem ownT_put (st : Sto) (k v : ByteArray) : OwnT (writeN (tx0 st) (wP k v)) st (wP k v) 1 := ⟨rfl, rfl, rfl, rfl, Nat.le_refl _⟩
theorem ownT_get {t : Tx} {st : Sto} {x : Wrt} {n : Nat} (h : OwnT t st x n) : getA t x.key = (x.val, !x.del) ∧ OwnT (getN t x.key) st x (n + 1) := by
  have hf : findW t.ws x.key = some x := by rw [h.ws]; exact find_one x
  refine ⟨getA_own hf, ?_⟩
  rw [getN_own hf]
  have := h.lim
  exact ⟨h.st, h.snap, h.asked, h.ws, by show t.lim + 1 ≤ n + 1; omega⟩
theorem ownT_scan {t : Tx} {st : Sto} {x : Wrt} {n : Nat} (h : OwnT t st x n) {r : List Pr} (hr : ScanIs st.vs 1000 x.key (zeroB x.key) r) : scanX t x.key (zeroB x.key) 5 r = tellW x ∧ OwnT (scanN t x.key (zeroB x.key) 5 r) st x (n + 1) := by
  have := h.lim
  refine ⟨?_, ⟨h.st, h.snap, h.asked, h.ws, by show t.lim + 1 ≤ n + 1; omega⟩⟩
  unfold scanX
  rw [h.ws, own_one_w x rfl, scan_k hr x rfl]
  unfold tellW
  split <;> rfl
theorem ownT_del {t : Tx} {st : Sto} {k v : ByteArray} {n : Nat} (h : OwnT t st (wP k v) n) : OwnT (writeN t (wD k)) st (wD k) (n + 1) := by
  have := h.lim
  refine ⟨h.st, h.snap, h.asked, ?_, by show t.lim + 1 ≤ n + 1; omega⟩
  show putW t.ws (wD k) = [wD k]
  rw [h.ws, put_put]
end Go.Proofs.Ytdmkmhjalcfchaa
