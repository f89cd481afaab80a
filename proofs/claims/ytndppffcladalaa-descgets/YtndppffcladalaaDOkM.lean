/-
  Which schemas may be, as the program asks it: the same. No program is walked here.
-/
import Derived.Test.YtndppffcladalaaDMayE
namespace Go.Proofs.Ytndppffcladalaa
open Go.RowKit Num

/-- The last table's number, 0 where there is none. -/
def Num.lastId (l : List Tab) : Int := (l.getLast?.map Tab.id).getD 0
theorem lastId_snoc (l : List Tab) (k : Nat) (hk : k < l.length) : lastId (l.take (k + 1)) = (l[k]).id := by
  unfold lastId
  rw [List.take_succ_eq_append_getElem hk, List.getLast?_append]
  simp
/-- The table at that place is above the last one, and below Next. -/
def Num.RiseM (x : Sch) (j : Nat) : Prop := ∀ t, x.tabs[j]? = some t → lastId (x.tabs.take j) + 1 ≤ t.id ∧ t.id ≤ x.next - 1
structure Num.SchM (x : Sch) : Prop where
  ver : 0 ≤ x.ver ∧ x.ver ≤ 1099511627775
  next : 0 ≤ x.next ∧ x.next ≤ 1099511627775
  ntabs : ¬ 4 < (x.tabs.length : Int)
  rise : ∀ j, j < x.tabs.length → RiseM x j
  tabs : ∀ t ∈ x.tabs, TabM t
  names : NamesOk (x.tabs.map Tab.name)
theorem apart_map_mem {α β : Type} {f : α → β} {l : List α} (P : β → Prop) (h : ∀ x ∈ l, P (f x)) : ∀ s ∈ l.map f, P s := by
  intro s hs
  obtain ⟨x, hx, rfl⟩ := List.mem_map.1 hs
  exact h x hx
theorem tabOk_iff (t : Tab) : TabOk t ↔ (nameOk t.name = true ∧ TabM t) := by
  constructor
  · intro h
    refine ⟨h.name, ⟨h.next, ?_, ?_, fun c hc => (h.cols c hc).2, h.first, ⟨apart_map_mem _ fun c hc => (h.cols c hc).1, h.cnames⟩, ⟨fun x hx => ?_, apart_map_mem _ fun c hc => (h.idxs c hc).1, h.inames⟩, fun d hd => ?_, h.apart⟩⟩
    · have := h.ncols
      omega
    · have := h.nidxs
      omega
    · obtain ⟨_, h2, h3, h4, h5⟩ := h.idxs x hx
      refine ⟨by omega, h4, h2, fun d hd => ?_⟩
      obtain ⟨c, hc, e⟩ := h5 d hd
      exact e ▸ List.mem_map_of_mem hc
    · have := h.ids d hd
      omega
  · rintro ⟨hn, h⟩
    refine ⟨hn, h.next, by have := h.ncols; omega, by have := h.nidxs; omega, h.key, h.names.2, fun c hc => ⟨h.names.1 _ (List.mem_map_of_mem hc), h.cols c hc⟩, h.idxs.2.2, fun x hx => ?_, fun d hd => by have := h.ids.1 d hd; omega, h.ids.2⟩
    obtain ⟨h1, h2, h3, h4⟩ := h.idxs.1 x hx
    refine ⟨h.idxs.2.1 _ (List.mem_map_of_mem hx), h3, by omega, h2, fun d hd => ?_⟩
    obtain ⟨c, hc, e⟩ := List.mem_map.1 (h4 d hd)
    exact ⟨c, hc, e⟩
theorem schOk_iff (x : Sch) : SchOk x ↔ SchM x := by
  constructor
  · intro h
    refine ⟨by have := h.ver; omega, by have := h.next; omega, by have := h.ntabs; omega, fun j hj t ht => ?_, fun t ht => ((tabOk_iff t).1 (h.tabs t ht)).2, apart_map_mem _ fun t ht => (h.tabs t ht).name, h.names⟩
    rw [List.getElem?_eq_getElem hj] at ht
    cases ht
    have h1 := h.ids _ (List.getElem_mem hj)
    cases j with
    | zero =>
      have : lastId (x.tabs.take 0) = 0 := rfl
      omega
    | succ j =>
      rw [lastId_snoc x.tabs j (by omega)]
      have := h.rise j hj
      omega
  · intro h
    have hr : ∀ j (hj : j < x.tabs.length), 1 ≤ (x.tabs[j]).id := by
      intro j
      induction j with
      | zero =>
        intro hj
        have h1 := (h.rise 0 hj _ (List.getElem?_eq_getElem hj)).1
        have : lastId (x.tabs.take 0) = 0 := rfl
        omega
      | succ j ih =>
        intro hj
        have h1 := (h.rise (j + 1) hj _ (List.getElem?_eq_getElem hj)).1
        rw [lastId_snoc x.tabs j (by omega)] at h1
        have := ih (by omega)
        omega
    refine ⟨by have := h.ver; omega, by have := h.next; omega, by have := h.ntabs; omega, fun i hi => ?_, fun t ht => ?_, fun t ht => (tabOk_iff t).2 ⟨h.names.1 _ (List.mem_map_of_mem ht), h.tabs t ht⟩, h.names.2⟩
    · have h1 := (h.rise (i + 1) hi _ (List.getElem?_eq_getElem hi)).1
      rw [lastId_snoc x.tabs i (by omega)] at h1
      omega
    · obtain ⟨j, hj, rfl⟩ := List.getElem_of_mem ht
      have h1 := (h.rise j hj _ (List.getElem?_eq_getElem hj)).2
      have := hr j hj
      omega
end Go.Proofs.Ytndppffcladalaa
