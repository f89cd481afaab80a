/-
  Contracts: has a schema more parts than a statement goes through?
-/
import Derived.Test.YtndppffcladalaaDMayF
namespace Go.Proofs.Ytndppffcladalaa
open Go.RowKit Num
open scoped Classical
set_option linter.unusedVariables false

def Num.GrC (c : Colm) : Prop := 1000 < (c.name.size : Int) ∨ 1000 < (c.d.s.size : Int)
def Num.GrI (c : Idx) : Prop := 1000 < (c.name.size : Int) ∨ 50 < (c.cols.length : Int)
def Num.GrT (t : Tab) : Prop := 1000 < (t.name.size : Int) ∨ 50 < (t.cols.length : Int) ∨ 50 < (t.idxs.length : Int) ∨ (∃ c ∈ t.cols, GrC c) ∨ ∃ c ∈ t.idxs, GrI c
def Num.GrM (x : Sch) : Prop := 20 < (x.tabs.length : Int) ∨ ∃ t ∈ x.tabs, GrT t
set_option maxRecDepth 100000 in
set_option maxHeartbeats 2000000 in
theorem great_any (x : Sch) (ao : Option Addr) (cap : Nat) (w : World) (hl : LiesT w w.heap.size ao x.tabs) :
    Calls Try.prog 12 #[.agg #[.int .i64 x.ver, .slice ao x.tabs.length cap, .int .i64 x.next]] w fun e w' => e = .returned (.bool (tru (GrM x))) ∧ Below w.heap.size w w' := by
  have hbx := heap_new w (.cells #[.int .i64 x.ver, .slice ao x.tabs.length cap, .int .i64 x.next] 26)
  by_cases q1 : 20 < (x.tabs.length : Int)
  · rw [tru_yes (show GrM x from .inl q1)]
    go_enter Try.func12, Try.ntmps12
    go_wp2
    go_ret
    exact ⟨rfl, (Below.refl _ _).alloc (Nat.le_refl _) _⟩
  · have h20 : x.tabs.length ≤ 20 := by omega
    go_enter Try.func12, Try.ntmps12
    go_wp2
    go_loopw [3] (fun i wr => ∃ k : Nat, k ≤ x.tabs.length ∧ i = .int .i64 (k : Int) ∧ Below w.heap.size w wr ∧ Hid (wr.heap[w.heap.size]? = some (.cells #[.int .i64 x.ver, .slice ao x.tabs.length cap, .int .i64 x.next] 26 (0, 0))) ∧ Hid (∀ j (hj : j < x.tabs.length), j < k → ¬ GrT x.tabs[j])) (fun i _ => x.tabs.length - (intOf i).toNat)
    case atStart => exact ⟨0, by omega, rfl, (Below.refl _ _).alloc (Nat.le_refl _) _, hbx, fun _ _ h => absurd h (Nat.not_lt_zero _)⟩
    case round =>
      clear hbx
      obtain ⟨k, hk, rfl, hbel, HB, HK⟩ := hrel
      have hsz := hbel.size
      have d1 := box_cell HB.out 1 _ rfl
      by_cases hkl : k < x.tabs.length
      · have HKs : ¬ GrT x.tabs[k] → Hid (∀ j (hj : j < x.tabs.length), j < k + 1 → ¬ GrT x.tabs[j]) := by
          intro hx j hj hjk
          by_cases h : j = k
          · subst h
            exact hx
          · exact HK.out j hj (by omega)
        have HKn : GrT x.tabs[k] → Hid (GrM x) := fun h => .inr ⟨_, List.getElem_mem hkl, h⟩
        have HBn : ∀ o : Obj, Hid ((wr.alloc o).heap[w.heap.size]? = some (.cells #[.int .i64 x.ver, .slice ao x.tabs.length cap, .int .i64 x.next] 26 (0, 0))) := fun o => alloc_box _ HB.out
        clear HK HB
        obtain ⟨a, rfl, hblk, c0, c1, ⟨ao2, cap2, c2, hl2⟩, ⟨ao3, cap3, c3, hl3⟩, c4⟩ := (hl.below TabAt.fast hbel) k x.tabs[k] (List.getElem?_eq_getElem hkl)
        generalize x.tabs[k] = y at *
        have hl2' : LiesK (wr.alloc (.cells #[.int .i64 y.id, .string y.name, .slice ao2 y.cols.length cap2, .slice ao3 y.idxs.length cap3, .int .i64 y.next] 40)) (wr.alloc (.cells #[.int .i64 y.id, .string y.name, .slice ao2 y.cols.length cap2, .slice ao3 y.idxs.length cap3, .int .i64 y.next] 40)).heap.size ao2 y.cols := (hl2.below ColAt.fast ((Below.refl _ wr).alloc hsz _)).mono (by simp; omega) (fun _ _ h => h)
        have hl3' : LiesI (wr.alloc (.cells #[.int .i64 y.id, .string y.name, .slice ao2 y.cols.length cap2, .slice ao3 y.idxs.length cap3, .int .i64 y.next] 40)) (wr.alloc (.cells #[.int .i64 y.id, .string y.name, .slice ao2 y.cols.length cap2, .slice ao3 y.idxs.length cap3, .int .i64 y.next] 40)).heap.size ao3 y.idxs := (hl3.below IdxAt.fast ((Below.refl _ wr).alloc hsz _)).mono (by simp; omega) (fun _ _ h => idxAt_mono (by simp; omega) h)
        clear hl2 hl3
        by_cases p1 : 1000 < (y.name.size : Int)
        · have hyes := HKn (.inl p1)
          clear HKs HKn
          go_wp2
          go_ret
          rw [tru_yes hyes.out]
          exact ⟨rfl, hbel.alloc hsz _⟩
        · by_cases p2 : 50 < (y.cols.length : Int)
          · have hyes := HKn (.inr (.inl p2))
            clear HKs HKn
            go_wp2
            go_ret
            rw [tru_yes hyes.out]
            exact ⟨rfl, hbel.alloc hsz _⟩
          · by_cases p3 : 50 < (y.idxs.length : Int)
            · have hyes := HKn (.inr (.inr (.inl p3)))
              clear HKs HKn
              go_wp2
              go_ret
              rw [tru_yes hyes.out]
              exact ⟨rfl, hbel.alloc hsz _⟩
            · have HKs2 : (∀ c ∈ y.cols, ¬ GrC c) → (∀ c ∈ y.idxs, ¬ GrI c) → Hid (∀ j (hj : j < x.tabs.length), j < k + 1 → ¬ GrT x.tabs[j]) := fun h1 h2 => HKs fun h => by
                rcases h with h | h | h | ⟨c, hc, h⟩ | ⟨c, hc, h⟩
                · exact p1 h
                · exact p2 h
                · exact p3 h
                · exact h1 c hc h
                · exact h2 c hc h
              have HKn2 : (∃ c ∈ y.cols, GrC c) → Hid (GrM x) := fun h => HKn (.inr (.inr (.inr (.inl h))))
              have HKn3 : (∃ c ∈ y.idxs, GrI c) → Hid (GrM x) := fun h => HKn (.inr (.inr (.inr (.inr h))))
              clear HKs HKn
              have HB2 := HBn (.cells #[.int .i64 y.id, .string y.name, .slice ao2 y.cols.length cap2, .slice ao3 y.idxs.length cap3, .int .i64 y.next] 40)
              clear HBn
              have d1b := box_cell HB2.out 1 _ rfl
              go_wp2
              go_loop [5] (fun i => ∃ m : Nat, m ≤ y.cols.length ∧ i = .int .i64 (m : Int) ∧ Hid (∀ j (hj : j < y.cols.length), j < m → ¬ GrC y.cols[j])) (fun i => y.cols.length - (intOf i).toNat)
              case atStart => exact ⟨0, by omega, rfl, fun _ _ h => absurd h (Nat.not_lt_zero _)⟩
              case round =>
                obtain ⟨m, hm, rfl, HM⟩ := hrel
                by_cases hml : m < y.cols.length
                · have HMs : ¬ GrC y.cols[m] → Hid (∀ j (hj : j < y.cols.length), j < m + 1 → ¬ GrC y.cols[j]) := by
                    intro hx j hj hjk
                    by_cases h : j = m
                    · subst h
                      exact hx
                    · exact HM.out j hj (by omega)
                  have HMn : GrC y.cols[m] → Hid (GrM x) := fun h => HKn2 ⟨_, List.getElem_mem hml, h⟩
                  clear HM HKs2 HKn2 HKn3
                  obtain ⟨a2, rfl, hblk2, e0, e1, e2, e3, e4, e5, e6, e7, e8⟩ := hl2' m y.cols[m] (List.getElem?_eq_getElem hml)
                  generalize y.cols[m] = c at *
                  by_cases r1 : 1000 < (c.name.size : Int)
                  · have hyes := HMn (.inl r1)
                    clear HMs HMn
                    go_wp2
                    go_ret
                    rw [tru_yes hyes.out]
                    exact ⟨rfl, hbel.alloc hsz _⟩
                  · by_cases r2 : 1000 < (c.d.s.size : Int)
                    · have hyes := HMn (.inr r2)
                      clear HMs HMn
                      go_wp2
                      go_ret
                      rw [tru_yes hyes.out]
                      exact ⟨rfl, hbel.alloc hsz _⟩
                    · have HM2 := HMs (fun h => by rcases h with h | h; exact r1 h; exact r2 h)
                      clear HMs HMn
                      go_wp2
                      go_round
                      case rel => exact ⟨m + 1, by omega, by go_num, HM2⟩
                      case measure => simp [intOf]; omega
                · have HKs3 : (∀ c ∈ y.idxs, ¬ GrI c) → Hid (∀ j (hj : j < x.tabs.length), j < k + 1 → ¬ GrT x.tabs[j]) := HKs2 (fun c hc => by
                    obtain ⟨j, hj, rfl⟩ := List.getElem_of_mem hc
                    exact HM.out j hj (by omega))
                  clear HM HKs2 HKn2
                  go_wp2
                  go_loop [6] (fun i => ∃ m : Nat, m ≤ y.idxs.length ∧ i = .int .i64 (m : Int) ∧ Hid (∀ j (hj : j < y.idxs.length), j < m → ¬ GrI y.idxs[j])) (fun i => y.idxs.length - (intOf i).toNat)
                  case atStart => exact ⟨0, by omega, rfl, fun _ _ h => absurd h (Nat.not_lt_zero _)⟩
                  case round =>
                    obtain ⟨m2, hm2, rfl, HM⟩ := hrel
                    by_cases hml2 : m2 < y.idxs.length
                    · have HMs : ¬ GrI y.idxs[m2] → Hid (∀ j (hj : j < y.idxs.length), j < m2 + 1 → ¬ GrI y.idxs[j]) := by
                        intro hx j hj hjk
                        by_cases h : j = m2
                        · subst h
                          exact hx
                        · exact HM.out j hj (by omega)
                      have HMn : GrI y.idxs[m2] → Hid (GrM x) := fun h => HKn3 ⟨_, List.getElem_mem hml2, h⟩
                      clear HM HKs3 HKn3
                      obtain ⟨a3, rfl, hblk3, e0, e1, ⟨ao4, cap4, e2, hl4, hca4⟩, e3, e4⟩ := hl3' m2 y.idxs[m2] (List.getElem?_eq_getElem hml2)
                      generalize y.idxs[m2] = c at *
                      by_cases r1 : 1000 < (c.name.size : Int)
                      · have hyes := HMn (.inl r1)
                        clear HMs HMn
                        go_wp2
                        go_ret
                        rw [tru_yes hyes.out]
                        exact ⟨rfl, hbel.alloc hsz _⟩
                      · by_cases r2 : 50 < (c.cols.length : Int)
                        · have hyes := HMn (.inr r2)
                          clear HMs HMn
                          go_wp2
                          go_ret
                          rw [tru_yes hyes.out]
                          exact ⟨rfl, hbel.alloc hsz _⟩
                        · have HM2 := HMs (fun h => by rcases h with h | h; exact r1 h; exact r2 h)
                          clear HMs HMn
                          go_wp2
                          go_round
                          case rel => exact ⟨m2 + 1, by omega, by go_num, HM2⟩
                          case measure => simp [intOf]; omega
                    · have HK2 := HKs3 (fun c hc => by
                        obtain ⟨j, hj, rfl⟩ := List.getElem_of_mem hc
                        exact HM.out j hj (by omega))
                      clear HM HKs3 HKn3
                      go_wp2
                      go_roundw
                      case rel => exact ⟨k + 1, by omega, by go_num, hbel.alloc hsz _, HB2, HK2⟩
                      case measure => simp [intOf]; omega
      · have hno : Hid (¬ GrM x) := fun h => by
          rcases h with h | ⟨t, ht, h⟩
          · omega
          · obtain ⟨j, hj, rfl⟩ := List.getElem_of_mem ht
            exact HK.out j hj (by omega) h
        clear HK
        go_wp2
        go_ret
        rw [tru_no hno.out]
        exact ⟨rfl, hbel⟩
end Go.Proofs.Ytndppffcladalaa
