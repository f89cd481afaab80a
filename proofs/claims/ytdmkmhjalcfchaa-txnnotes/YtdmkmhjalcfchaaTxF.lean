/-
  Contracts: the range that a scan hangs on (seen); what a transaction reads between two keys (Scan).
-/
import Derived.Test.YtdmkmhjalcfchaaTxE
namespace Go.Proofs.Ytdmkmhjalcfchaa
open Go.RowKit Go.Maps Num
open scoped Classical
set_option linter.unusedVariables false
set_option maxRecDepth 100000

abbrev Num.rngBox (x : Rng) : Obj := .cells #[.string x.lo, .string x.hi] 64
theorem seenR_last {lo hi : ByteArray} {told : List Pr} {n : Int} (hn : (told.length : Int) = n) {x : Pr} {m : Nat} (hm : told.length = m + 1) (hx : told[m]? = some x) : seenR lo hi told n = ⟨lo, zeroB x.key⟩ := by
  unfold seenR
  rw [List.getLast?_eq_getElem?, hm, show m + 1 - 1 = m from rfl, hx]
  simp only
  rw [← hm, if_pos hn]
theorem seenR_few {lo hi : ByteArray} {told : List Pr} {n : Int} (hn : ¬ (told.length : Int) = n) : seenR lo hi told n = ⟨lo, hi⟩ := by
  unfold seenR
  split
  · rw [if_neg hn]
  · rfl
set_option maxRecDepth 100000 in
set_option maxHeartbeats 1000000 in
theorem seen_any (lo hi : ByteArray) (told : List Pr) (n : Int) (hn1 : 1 ≤ n) (ao : Option Addr) (cap : Nat) (hlen : told.length ≤ 2000) (hks : ∀ x ∈ told, x.key.size ≤ 900000) (w : World) (hl : LiesPr w w.heap.size ao told) :
    Calls Try.prog 42 #[.string lo, .string hi, .slice ao told.length cap, .int .i64 n] w fun e w' => e = .returned (.agg #[.string (seenR lo hi told n).lo, .string (seenR lo hi told n).hi]) ∧ Below w.heap.size w w' := by
  by_cases hn : (told.length : Int) = n
  · obtain ⟨m, hm⟩ : ∃ m, told.length = m + 1 := ⟨told.length - 1, by omega⟩
    have hml : m < told.length := by omega
    have hx : told[m]? = some told[m] := List.getElem?_eq_getElem hml
    obtain ⟨a, rfl, hab, e0, _⟩ := hl m _ hx
    have hk := hks told[m] (List.getElem_mem hml)
    rw [seenR_last hn hm hx]
    simp only [zeroB]
    have hn0 : n = ((m + 1 : Nat) : Int) := by omega
    subst hn0
    have e0' := fun o => alloc_cell (w := w) o e0
    rw [hm]
    have hmm : ((m + 1 : Nat) : Int) - 1 = (m : Int) := by omega
    have hz : (⟨#[0]⟩ : ByteArray).size = 1 := rfl
    clear hl hn hx hks e0
    generalize told[m] = x at *
    have hb : Below w.heap.size w (w.alloc (rngBox ⟨lo, x.key ++ ⟨#[0]⟩⟩)) := (Below.refl _ w).alloc (Nat.le_refl _) _
    have q : (w.alloc (rngBox ⟨lo, x.key ++ ⟨#[0]⟩⟩)).heap[w.heap.size]? = some (rngBox ⟨lo, x.key ++ ⟨#[0]⟩⟩) := heap_new w _
    have q0 := box_cell q 0 _ rfl
    have q1 := box_cell q 1 _ rfl
    go_enter Try.func42, Try.ntmps42
    go_wp2
    exact bodyPost_ret (v := .agg #[.string lo, .string (x.key ++ ⟨#[0]⟩)]) (by simp [results, Try.results42, go_sem, q0, q1]) rfl ⟨rfl, hb⟩
  · rw [seenR_few hn]
    clear hl hks
    have hb : Below w.heap.size w (w.alloc (rngBox ⟨lo, hi⟩)) := (Below.refl _ w).alloc (Nat.le_refl _) _
    have q : (w.alloc (rngBox ⟨lo, hi⟩)).heap[w.heap.size]? = some (rngBox ⟨lo, hi⟩) := heap_new w _
    have q0 := box_cell q 0 _ rfl
    have q1 := box_cell q 1 _ rfl
    go_enter Try.func42, Try.ntmps42
    go_wp2
    exact bodyPost_ret (v := .agg #[.string lo, .string hi]) (by simp [results, Try.results42, go_sem, q0, q1]) rfl ⟨rfl, hb⟩
theorem Num.Out.grown_row {F : Nat → Prop} {w w' : World} {o : Option Nat} (h : w.grownBy w' o) (hp : ∀ p, o = some p → F p) : Out F w w' :=
  ⟨⟨h.os, h.tape, h.output, h.size, fun k hk => absurd hk (Nat.not_lt_zero _)⟩, fun i hi hf => h.block i hi (fun e => hf (hp i e.symm))⟩
theorem Num.Out.wide {F G : Nat → Prop} {w w' : World} (h : Out F w w') (hFG : ∀ i, F i → G i) : Out G w w' := ⟨h.low, fun i hi hg => h.keep i hi (fun hf => hg (hFG i hf))⟩
/-- A range more. -/
theorem hold_rng {B : Nat} {W : World} {g : Nat} {t : Tx} {so am wm : Option Nat} {ao : Option Addr} {cap : Nat} (h : TxAt B W g t so am wm ao cap) (x : Rng) (hl : t.lim ≤ 999) (b : Nat) (hb : W.heap[b]? = some (rngBox x)) :
    ∃ ao6 cap6 w6, (Builtin.append_ #[44, 44] 44 #[.slice ao t.rngs.length cap, .slice (some ⟨b, 0, none⟩) 1 1]).run Try.prog W = .ok (.slice ao6 (t.rngs.length + 1) cap6) w6 ∧ w6.cell? ⟨g, 3, none⟩ = some (.slice ao t.rngs.length cap) ∧ w6.frozen? ⟨g, 3, none⟩ = false ∧
      TxAt B (w6.setCell ⟨g, 3, none⟩ (.slice ao6 (t.rngs.length + 1) cap6)) g { t with rngs := t.rngs ++ [x], lim := t.lim + 1 } so am wm ao6 cap6 ∧ (∀ a, ao6 = some a → (∃ a0, ao = some a0 ∧ a0.block = a.block) ∨ (W.heap.size ≤ a.block ∧ a.block < w6.heap.size)) ∧ Out (footT g am wm ao) W (w6.setCell ⟨g, 3, none⟩ (.slice ao6 (t.rngs.length + 1) cap6)) := by
  have hgB := h.gB
  have hgl := h.lt
  have hlR := h.ok.limR
  obtain ⟨v6, w6, hr, hown, hgr, hnear, hbel⟩ := run_app1 Try.underlying44 Try.infoRng ⟨by decide, by decide, rfl⟩ W 44 B (.slice ao t.rngs.length cap) t.rngs.length (rngCells t.rngs) h.row b [.string x.lo, .string x.hi] hb rfl (rngC_one x) (by omega) (by omega)
  have hown' : w6.ownsRow B 64 2 v6 (t.rngs ++ [x]).length (rngCells (t.rngs ++ [x])) := by
    rw [List.length_append, rngCells_append]
    exact hown
  obtain ⟨ao6, cap6, rfl, _⟩ := own_liesQ hown'
  have hlen : (t.rngs ++ [x]).length = t.rngs.length + 1 := by simp
  rw [hlen] at hown' hr hnear
  have hrowF : ∀ p, (Value.slice ao t.rngs.length cap).ownBlock = some p → ∃ a, ao = some a ∧ a.block = p := fun p hp => by
    cases ao with
    | none => cases hp
    | some a =>
      cases hp
      exact ⟨a, rfl, rfl⟩
  have hkeep : ∀ i, i < W.heap.size → (∀ a, ao = some a → a.block ≠ i) → w6.heap[i]? = W.heap[i]? := fun i hi hne => hgr.block i hi (fun e => by
    obtain ⟨a, ha, hab⟩ := hrowF i e.symm
    exact hne a ha hab)
  have hg6 : w6.heap[g]? = W.heap[g]? := hkeep g hgl (fun a ha => row_far h.row h.box (by decide) ha)
  have hbox6 := hg6.trans h.box
  have hset : ∀ i, i ≠ g → (w6.setCell ⟨g, 3, none⟩ (.slice ao6 (t.rngs.length + 1) cap6)).heap[i]? = w6.heap[i]? := fun i hi => Below.heap_setCell _ _ _ _ hi
  have hout : Out (footT g am wm ao) W (w6.setCell ⟨g, 3, none⟩ (.slice ao6 (t.rngs.length + 1) cap6)) := (Out.grown_row hgr (fun p hp => by
    obtain ⟨a, ha, hab⟩ := hrowF p hp
    exact .inr (.inr (.inr ⟨a, ha, hab⟩)))).next (.of_grown (grown_set _ g 3 _) (.inl rfl))
  have hbB : Below B W (w6.setCell ⟨g, 3, none⟩ (.slice ao6 (t.rngs.length + 1) cap6)) := hout.below (fun i hi => (h.foot hi).1) (by omega)
  have hmap : ∀ (i : Nat) es c, W.heap[i]? = some (.map es c) → (w6.setCell ⟨g, 3, none⟩ (.slice ao6 (t.rngs.length + 1) cap6)).heap[i]? = some (.map es c) := fun i es c e => by
    have hi := (Array.getElem?_eq_some_iff.1 e).1
    rw [hset i (fun e2 => by rw [e2, h.box] at e; cases e), hkeep i hi (fun a ha => row_ne h.row e ha)]
    exact e
  have ha6 : ∀ a, ao6 = some a → a.block ≠ g := fun a ha => row_far hown' hbox6 (by decide) ha
  refine ⟨ao6, cap6, w6, hr, box_cell hbox6 3 _ rfl, box_open hbox6 3, ⟨?_, hgB, h.sto.next hbB, (h.ask.mono (Nat.le_succ _)).same (fun i es c _ e => hmap i es c e), ?_, (h.wrs.mono (Nat.le_succ _)).same (fun i es c _ e => hmap i es c e), h.aB, h.wB, h.apart, ?_⟩, fun a ha => ?_, hout⟩
  · have := set_heap (i := 3) hbox6 (.slice ao6 (t.rngs.length + 1) cap6)
    rw [this]
    show some (Obj.cells #[stoV so, .int .i64 t.snap, .map am, .slice ao6 (t.rngs.length + 1) cap6, .map wm] 77 (0, 0)) = some (Obj.cells #[stoV so, .int .i64 t.snap, .map am, .slice ao6 (t.rngs ++ [x]).length cap6, .map wm] 77 (0, 0))
    rw [hlen]
  · show World.ownsRow _ B 64 2 (.slice ao6 (t.rngs ++ [x]).length cap6) (t.rngs ++ [x]).length (rngCells (t.rngs ++ [x]))
    rw [hlen]
    exact own_keep hown' (fun a ha => hset _ (ha6 a ha))
  · exact ⟨h.ok.asked, h.ok.ws, h.ok.vs, h.ok.ups, h.ok.small, h.ok.smallA, h.ok.smallV, by show t.asked.length ≤ t.lim + 1; have := h.ok.limA; omega, by show (t.rngs ++ [x]).length ≤ t.lim + 1; omega, by show t.ws.length ≤ t.lim + 1; have := h.ok.limW; omega, by show t.lim + 1 ≤ 1000; omega⟩
  · subst ha
    rcases hnear with hn | ⟨q, hn, hq⟩
    · obtain ⟨a0, ha0, hab⟩ := hrowF a.block hn.symm
      exact .inl ⟨a0, ha0, hab⟩
    · cases hn
      exact .inr ⟨hq, (row_lt hown' rfl).2⟩
end Go.Proofs.Ytdmkmhjalcfchaa
