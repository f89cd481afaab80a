/-
  Lists that the call itself has made: values, ranges, writes, rows; what keeps them; that they lie in memory.
-/
import Derived.Test.YtbhaahkjglfjmaaCRd1
namespace Go.Proofs.Ytbhaahkjglfjmaa
open Go.RowKit Num
set_option linter.unusedVariables false

/-- What is from B on, but for rows of e, is held. -/
structure Num.HoldX (B : Nat) (e : TypeId) (w w' : World) : Prop where
  size : w.heap.size ≤ w'.heap.size
  keep : ∀ k, B ≤ k → k < w.heap.size → (∀ cs fr, w.heap[k]? ≠ some (.cells cs e fr)) → w'.heap[k]? = w.heap[k]?
theorem Num.HoldX.of_grown {B : Nat} {e : TypeId} {w w' : World} {p : Nat} (h : w.grownBy w' (some p)) (hp : p < B) : HoldX B e w w' :=
  ⟨h.size, fun k hB hk _ => h.block k hk (by intro e; cases e; omega)⟩
theorem Num.HoldX.of_stay {B : Nat} {e : TypeId} {w w' : World} (h : Stay (fun _ => False) e w w') : HoldX B e w w' := ⟨h.size, fun k _ hk hn => h.keep k hk id hn⟩
theorem Num.HoldX.of_below {B : Nat} {e : TypeId} {w w' : World} (h : Below w.heap.size w w') : HoldX B e w w' := ⟨h.size, fun k _ hk _ => h.block k hk⟩
theorem Num.HoldX.trans {B : Nat} {e : TypeId} {a b c : World} (h : HoldX B e a b) (k : HoldX B e b c) : HoldX B e a c :=
  ⟨Nat.le_trans h.size k.size, fun i hB hi hn => by
    have h1 := h.keep i hB hi hn
    exact (k.keep i hB (Nat.lt_of_lt_of_le hi h.size) (by rw [h1]; exact hn)).trans h1⟩
theorem own_hold {B : Nat} {e e' : TypeId} {w w' : World} {size n : Nat} {v : Value} {xs : List Value} (h : w.ownsRow B e' size v n xs) (hh : HoldX B e w w') (hne : e' ≠ e) : w'.ownsRow B e' size v n xs := by
  refine ⟨h.1, ?_⟩
  rcases h.2 with h0 | ⟨g, cap, cur, hv, hb, hg, r⟩
  · exact .inl h0
  · refine .inr ⟨g, cap, cur, hv, hb, ?_, r⟩
    rw [hh.keep g hb (Array.getElem?_eq_some_iff.1 hg).1 (fun cs fr he => by rw [hg] at he; simp at he; exact hne he.2.1)]
    exact hg
theorem own_mono {B B' : Nat} {e : TypeId} {w : World} {size n : Nat} {v : Value} {xs : List Value} (h : w.ownsRow B e size v n xs) (hB : B' ≤ B) : w.ownsRow B' e size v n xs := by
  refine ⟨h.1, ?_⟩
  rcases h.2 with h0 | ⟨g, cap, cur, hv, hb, r⟩
  · exact .inl h0
  · exact .inr ⟨g, cap, cur, hv, Nat.le_trans hB hb, r⟩
/-- A list of structs of the call's own. -/
def Num.OwnS {α : Type} (V : Nat → World → List Value → α → Prop) (e : TypeId) (sz B : Nat) (w : World) (v : Value) (l : List α) : Prop :=
  ∃ css : List (List Value), css.length = l.length ∧ (∀ cs ∈ css, cs.length = sz ∧ ∀ u ∈ cs, u.oneCell' = true) ∧ w.ownsRow B e sz v l.length css.flatten ∧ ∀ (i : Nat) cs x, css[i]? = some cs → l[i]? = some x → V B w cs x
theorem Num.OwnS.nil {α : Type} (V : Nat → World → List Value → α → Prop) (e : TypeId) (sz B : Nat) (w : World) : OwnS V e sz B w (.slice none 0 0) [] := ⟨[], rfl, by simp, World.ownsRow_nil _ _ _ _, by simp⟩
theorem Num.OwnS.hold {α : Type} {V : Nat → World → List Value → α → Prop} {e e' : TypeId} {sz B : Nat} {w w' : World} {v : Value} {l : List α} (h : OwnS V e' sz B w v l) (hh : HoldX B e w w') (hne : e' ≠ e) (hV : ∀ cs x, V B w cs x → V B w' cs x) : OwnS V e' sz B w' v l := by
  obtain ⟨css, h1, h2, h3, h4⟩ := h
  exact ⟨css, h1, h2, own_hold h3 hh hne, fun i cs x a b => hV _ _ (h4 i cs x a b)⟩
theorem Num.OwnS.mono {α : Type} {V : Nat → World → List Value → α → Prop} {e : TypeId} {sz B B' : Nat} {w : World} {v : Value} {l : List α} (h : OwnS V e sz B w v l) (hB : B' ≤ B) (hV : ∀ cs x, V B w cs x → V B' w cs x) : OwnS V e sz B' w v l := by
  obtain ⟨css, h1, h2, h3, h4⟩ := h
  exact ⟨css, h1, h2, own_mono h3 hB, fun i cs x a b => hV _ _ (h4 i cs x a b)⟩
theorem Num.OwnS.shape {α : Type} {V : Nat → World → List Value → α → Prop} {e : TypeId} {sz B : Nat} {w : World} {v : Value} {l : List α} (h : OwnS V e sz B w v l) : ∃ ao cap, v = .slice ao l.length cap := by
  obtain ⟨css, h1, h2, h3, h4⟩ := h
  rcases h3.2 with ⟨hv, h0⟩ | ⟨g, cap, cur, hv, _⟩
  · exact ⟨none, 0, by rw [hv, h0]⟩
  · exact ⟨_, cap, hv⟩
def Num.ValV (B : Nat) (w : World) (cs : List Value) (x : Val) : Prop := cs = [.int .i64 x.k, .int .i64 x.n, .int .u64 (x.f : Int), .string x.s]
def Num.RngV (B : Nat) (w : World) (cs : List Value) (x : Rng) : Prop := cs = [.string x.lo, .string x.hi]
def Num.WrtV (B : Nat) (w : World) (cs : List Value) (x : Wrt) : Prop := cs = [.string x.key, .string x.val, .bool x.del]
abbrev Num.OwnV (B : Nat) (w : World) (v : Value) (l : List Val) : Prop := OwnS ValV 45 4 B w v l
abbrev Num.OwnQ (B : Nat) (w : World) (v : Value) (l : List Rng) : Prop := OwnS RngV 50 2 B w v l
abbrev Num.OwnW (B : Nat) (w : World) (v : Value) (l : List Wrt) : Prop := OwnS WrtV 41 3 B w v l
def Num.RowV (B : Nat) (w : World) (cs : List Value) (l : List Val) : Prop := ∃ v, cs = [v] ∧ OwnV B w v l
abbrev Num.OwnX (B : Nat) (w : World) (v : Value) (l : List (List Val)) : Prop := OwnS RowV 42 1 B w v l
theorem rowS_shape {B : Nat} {w : World} {v : Value} {l : List ByteArray} (h : RowS B w v l) : ∃ ao cap, v = .slice ao l.length cap := by
  obtain ⟨ao, cap, h1, _⟩ := h.lies
  exact ⟨ao, cap, h1⟩
theorem rowS_hold {B : Nat} {e : TypeId} {w w' : World} {v : Value} {l : List ByteArray} (h : RowS B w v l) (hh : HoldX B e w w') (hne : 9 ≠ e) : RowS B w' v l := own_hold h hh hne
theorem rowS_mono {B B' : Nat} {w : World} {v : Value} {l : List ByteArray} (h : RowS B w v l) (hB : B' ≤ B) : RowS B' w v l := own_mono h hB
theorem ownV_hold {B : Nat} {e : TypeId} {w w' : World} {v : Value} {l : List Val} (h : OwnV B w v l) (hh : HoldX B e w w') (hne : 45 ≠ e) : OwnV B w' v l := h.hold hh hne fun _ _ h => h
theorem ownV_mono {B B' : Nat} {w : World} {v : Value} {l : List Val} (h : OwnV B w v l) (hB : B' ≤ B) : OwnV B' w v l := h.mono hB fun _ _ h => h
theorem ownQ_hold {B : Nat} {e : TypeId} {w w' : World} {v : Value} {l : List Rng} (h : OwnQ B w v l) (hh : HoldX B e w w') (hne : 50 ≠ e) : OwnQ B w' v l := h.hold hh hne fun _ _ h => h
theorem ownQ_mono {B B' : Nat} {w : World} {v : Value} {l : List Rng} (h : OwnQ B w v l) (hB : B' ≤ B) : OwnQ B' w v l := h.mono hB fun _ _ h => h
theorem ownW_hold {B : Nat} {e : TypeId} {w w' : World} {v : Value} {l : List Wrt} (h : OwnW B w v l) (hh : HoldX B e w w') (hne : 41 ≠ e) : OwnW B w' v l := h.hold hh hne fun _ _ h => h
theorem ownW_mono {B B' : Nat} {w : World} {v : Value} {l : List Wrt} (h : OwnW B w v l) (hB : B' ≤ B) : OwnW B' w v l := h.mono hB fun _ _ h => h
theorem rowV_hold {B : Nat} {e : TypeId} {w w' : World} {cs : List Value} {x : List Val} (h : RowV B w cs x) (hh : HoldX B e w w') (hne : 45 ≠ e) : RowV B w' cs x := by
  obtain ⟨v, h1, h2⟩ := h
  exact ⟨v, h1, ownV_hold h2 hh hne⟩
theorem rowV_mono {B B' : Nat} {w : World} {cs : List Value} {x : List Val} (h : RowV B w cs x) (hB : B' ≤ B) : RowV B' w cs x := by
  obtain ⟨v, h1, h2⟩ := h
  exact ⟨v, h1, ownV_mono h2 hB⟩
theorem ownX_hold {B : Nat} {e : TypeId} {w w' : World} {v : Value} {l : List (List Val)} (h : OwnX B w v l) (hh : HoldX B e w w') (hne : 42 ≠ e) (hne2 : 45 ≠ e) : OwnX B w' v l := h.hold hh hne fun _ _ h => rowV_hold h hh hne2
theorem ownX_mono {B B' : Nat} {w : World} {v : Value} {l : List (List Val)} (h : OwnX B w v l) (hB : B' ≤ B) : OwnX B' w v l := h.mono hB fun _ _ h => rowV_mono h hB

/-! They lie in memory. -/
theorem flat_get {css : List (List Value)} {sz : Nat} (h : ∀ cs ∈ css, cs.length = sz) : ∀ (i : Nat) cs, css[i]? = some cs → ∀ j, j < sz → css.flatten[i * sz + j]? = cs[j]? := by
  induction css with
  | nil => intro i cs hi; simp at hi
  | cons c css ih =>
    intro i cs hi j hj
    have hc : c.length = sz := h c (by simp)
    cases i with
    | zero =>
      simp at hi
      subst hi
      rw [List.flatten_cons, Nat.zero_mul, Nat.zero_add, List.getElem?_append_left (by omega)]
    | succ i =>
      have hi' : css[i]? = some cs := by simpa using hi
      rw [List.flatten_cons, List.getElem?_append_right (by rw [hc, Nat.succ_mul]; omega)]
      rw [show (i + 1) * sz + j - c.length = i * sz + j by rw [hc, Nat.succ_mul]; omega]
      exact ih (fun cs hcs => h cs (by simp [hcs])) i cs hi' j hj
theorem Num.OwnS.lies {α : Type} {V : Nat → World → List Value → α → Prop} {e : TypeId} {sz B : Nat} {w : World} {v : Value} {l : List α} (h : OwnS V e sz B w v l) (At : World → Addr → α → Prop)
    (hA : ∀ (p : Addr) cs x, V B w cs x → cs.length = sz → (∀ j u, cs[j]? = some u → w.cell? ⟨p.block, p.off + j, none⟩ = some u) → p.spot = none → At w p x) :
    ∃ ao cap, v = .slice ao l.length cap ∧ LiesG At sz w w.heap.size ao l := by
  obtain ⟨css, h1, h2, h3, h4⟩ := h
  rcases h3.2 with ⟨hv, h0⟩ | ⟨g, cap, cur, hv, _, hg, hcap, _⟩
  · subst hv
    have : l = [] := List.eq_nil_of_length_eq_zero h0
    subst this
    exact ⟨none, 0, rfl, fun i x hx => by simp at hx⟩
  · subst hv
    refine ⟨some ⟨g, 0, none⟩, cap, rfl, fun i x hx => ⟨_, rfl, (Array.getElem?_eq_some_iff.1 hg).1, ?_⟩⟩
    have hi := (List.getElem?_eq_some_iff.1 hx).1
    have hcs : css[i]? = some (css[i]'(by omega)) := List.getElem?_eq_getElem (by omega)
    have hlen := (h2 _ (List.mem_of_getElem? hcs)).1
    refine hA _ _ x (h4 i _ x hcs hx) hlen (fun j u hj => ?_) (by simp only [Addr.add_lit])
    have hjl : j < sz := by rw [← hlen]; exact (List.getElem?_eq_some_iff.1 hj).1
    have h5 := flat_get (fun cs hc => (h2 cs hc).1) i _ hcs j hjl
    rw [hj] at h5
    have h6 := h3.cells (g := g) rfl _ _ h5
    simp only [Addr.add_lit] at h6 ⊢
    rw [Nat.zero_add] at h6 ⊢
    exact h6
theorem at_zero {w : World} {p : Addr} {u : Value} (hs : p.spot = none) (h : w.cell? ⟨p.block, p.off + 0, none⟩ = some u) : w.cell? p = some u := by
  cases p
  simp_all
theorem ownV_lies {B : Nat} {w : World} {v : Value} {l : List Val} (h : OwnV B w v l) : ∃ ao cap, v = .slice ao l.length cap ∧ LiesV w w.heap.size ao l :=
  h.lies ValAt fun p cs x hV _ hc hs => by
    cases hV
    exact ⟨at_zero hs (hc 0 _ rfl), hc 1 _ rfl, hc 2 _ rfl, hc 3 _ rfl⟩
theorem ownQ_lies {B : Nat} {w : World} {v : Value} {l : List Rng} (h : OwnQ B w v l) : ∃ ao cap, v = .slice ao l.length cap ∧ LiesQ w w.heap.size ao l :=
  h.lies RngAt fun p cs x hV _ hc hs => by
    cases hV
    exact ⟨at_zero hs (hc 0 _ rfl), hc 1 _ rfl⟩
theorem ownW_lies {B : Nat} {w : World} {v : Value} {l : List Wrt} (h : OwnW B w v l) : ∃ ao cap, v = .slice ao l.length cap ∧ LiesW w w.heap.size ao l :=
  h.lies WrtAt fun p cs x hV _ hc hs => by
    cases hV
    exact ⟨at_zero hs (hc 0 _ rfl), hc 1 _ rfl, hc 2 _ rfl⟩
theorem ownX_lies {B : Nat} {w : World} {v : Value} {l : List (List Val)} (h : OwnX B w v l) : ∃ ao cap, v = .slice ao l.length cap ∧ LiesX w w.heap.size ao l :=
  h.lies (RowAt w.heap.size) fun p cs x hV _ hc hs => by
    obtain ⟨v, rfl, hr⟩ := hV
    obtain ⟨ao, cap, rfl, hl⟩ := ownV_lies hr
    exact ⟨ao, cap, at_zero hs (hc 0 _ rfl), hl⟩
/-- A command of the call's own. -/
structure Num.OwnC (B : Nat) (w : World) (s : Cs) (c : Cmd) : Prop where
  keys : RowS B w (.slice s.ko c.keys.length s.kc) c.keys
  rngs : OwnQ B w (.slice s.ro c.rngs.length s.rc) c.rngs
  wrts : OwnW B w (.slice s.wo c.wrts.length s.wc) c.wrts
  rows : OwnX B w (.slice s.xo c.rows.length s.xc) c.rows
theorem slice_eq {a b : Option Addr} {m n k l : Nat} (h : Value.slice a m k = Value.slice b n l) : a = b := by
  cases h
  rfl
theorem Num.OwnC.lies {B : Nat} {w : World} {s : Cs} {c : Cmd} (h : OwnC B w s c) : LiesC w w.heap.size s c := by
  obtain ⟨a1, _, e1, _, l1⟩ := h.keys.lies
  obtain ⟨a2, _, e2, l2⟩ := ownQ_lies h.rngs
  obtain ⟨a3, _, e3, l3⟩ := ownW_lies h.wrts
  obtain ⟨a4, _, e4, l4⟩ := ownX_lies h.rows
  rw [← slice_eq e1] at l1
  rw [← slice_eq e2] at l2
  rw [← slice_eq e3] at l3
  rw [← slice_eq e4] at l4
  exact ⟨l1, l2, l3, l4⟩
end Go.Proofs.Ytbhaahkjglfjmaa
