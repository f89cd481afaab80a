/-
  Contracts: what package desc asks of indexes (6.2).
-/
import Derived.Test.YtndppffcladalaaDMayC
namespace Go.Proofs.Ytndppffcladalaa
open Go.RowKit Num
open scoped Classical
set_option linter.unusedVariables false

/-- What is asked of an index over columns with these IDs. -/
def Num.IxM (ids : List Int) (x : Idx) : Prop := (1 ≤ (x.cols.length : Int) ∧ (x.cols.length : Int) ≤ 8) ∧ Apart x.cols ∧ (0 ≤ x.state ∧ x.state ≤ 4) ∧ ∀ d ∈ x.cols, d ∈ ids
def Num.IxsM (l : List Idx) (ids : List Int) : Prop := (∀ x ∈ l, IxM ids x) ∧ NamesOk (l.map Idx.name)
set_option maxHeartbeats 1000000 in
theorem mayIndexes_any (ao : Option Addr) (cap : Nat) (l : List Idx) (h4 : l.length ≤ 4) (aoi : Option Addr) (capi : Nat) (ids : List Int) (h8 : ids.length ≤ 1000) (w : World) (hl : LiesI w w.heap.size ao l) (hi : LiesN w w.heap.size aoi ids) :
    Calls Try.prog 42 #[.slice ao l.length cap, .slice aoi ids.length capi] w fun e w' => e = .returned (.bool (tru (IxsM l ids))) ∧ Below w.heap.size w w' := by
  go_enter Try.func42, Try.ntmps42
  go_wp2
  go_loopw [5, 12] (fun v i wr => ∃ k : Nat, k ≤ l.length ∧ i = .int .i64 (k : Int) ∧ RowS w.heap.size wr v ((l.take k).map Idx.name) ∧ Below w.heap.size w wr ∧ Hid (∀ j (hj : j < l.length), j < k → IxM ids l[j])) (fun _ i _ => l.length - (intOf i).toNat)
  case atStart => exact ⟨0, by omega, rfl, RowS.nil _ _, Below.refl _ _, fun _ _ h => absurd h (Nat.not_lt_zero _)⟩
  case round =>
    obtain ⟨k, hk, rfl, hrow, hbel, HK⟩ := hrel
    have hsz := hbel.size
    have hlt := len_take Idx.name l k
    by_cases hkl : k < l.length
    · have hcat := map_snoc Idx.name l k hkl
      have hstep : ∀ (o1 o2 : Obj) (w3 : World) (v3 : Value), RowS w.heap.size w3 v3 ((l.take k).map Idx.name ++ [(l[k]).name]) → Below w.heap.size ((wr.alloc o1).alloc o2) w3 → RowS w.heap.size w3 v3 ((l.take (k + 1)).map Idx.name) ∧ Below w.heap.size w w3 := by
        intro o1 o2 w3 v3 h1 h2
        rw [← hcat] at h1
        exact ⟨h1, ((hbel.alloc hsz _).alloc (by simp; omega) _).trans h2⟩
      clear hcat
      have HKs : IxM ids l[k] → Hid (∀ j (hj : j < l.length), j < k + 1 → IxM ids l[j]) := by
        intro hx j hj hjk
        by_cases h : j = k
        · subst h
          exact hx
        · exact HK.out j hj (by omega)
      have HKn : ¬ IxM ids l[k] → Hid (¬ IxsM l ids) := fun hx h => hx (h.1 _ (List.getElem_mem hkl))
      clear HK
      obtain ⟨a, rfl, hblk, c0, c1, ⟨ao2, cap2, c2, hl2, hca2⟩, c3, c4⟩ := (hl.below IdxAt.fast hbel) k l[k] (List.getElem?_eq_getElem hkl)
      generalize (l.take k).map Idx.name = L at *
      generalize l[k] = y at *
      have hl2' : LiesN (wr.alloc (.cells #[.int .i64 y.id, .string y.name, .slice ao2 y.cols.length cap2, .bool y.uniq, .int .i64 y.state] 52)) (wr.alloc (.cells #[.int .i64 y.id, .string y.name, .slice ao2 y.cols.length cap2, .bool y.uniq, .int .i64 y.state] 52)).heap.size ao2 y.cols := (hl2.below NumAt.fast ((Below.refl _ wr).alloc hsz _)).mono (by simp; omega) (fun _ _ h => h)
      have hi' : LiesN (wr.alloc (.cells #[.int .i64 y.id, .string y.name, .slice ao2 y.cols.length cap2, .bool y.uniq, .int .i64 y.state] 52)) (wr.alloc (.cells #[.int .i64 y.id, .string y.name, .slice ao2 y.cols.length cap2, .bool y.uniq, .int .i64 y.state] 52)).heap.size aoi ids := (hi.below NumAt.fast (hbel.alloc hsz _)).mono (by simp; omega) (fun _ _ h => h)
      have hw := within_any (y.cols.length : Int) 1 8
      have hs := mayState_any y.state
      by_cases q1 : 1 ≤ (y.cols.length : Int) ∧ (y.cols.length : Int) ≤ 8
      · rw [tru_yes q1] at hw
        have hu := unlike_any ao2 cap2 y.cols (by omega) hca2 _ hl2'
        by_cases q2 : Apart y.cols
        · rw [tru_yes q2] at hu
          by_cases q3 : 0 ≤ y.state ∧ y.state ≤ 4
          · rw [tru_yes q3] at hs
            have HKs' : (∀ d ∈ y.cols, d ∈ ids) → Hid (∀ j (hj : j < l.length), j < k + 1 → IxM ids l[j]) := fun h => HKs ⟨q1, q2, q3, h⟩
            have HKn' : (¬ ∀ d ∈ y.cols, d ∈ ids) → Hid (¬ IxsM l ids) := fun h => HKn fun h' => h h'.2.2.2
            have hy8 : y.cols.length ≤ 8 := by omega
            clear HKs HKn q1 q2 q3
            go_wp2_with (first
              | (go_at_call 25; refine (hw _).mono ?_; rintro e w1 ⟨rfl, rfl⟩)
              | (go_at_call 64; refine hu.mono ?_; rintro e w1 ⟨rfl, hw1⟩; subst hw1)
              | (go_at_call 62; refine (hs _).mono ?_; rintro e w1 ⟨rfl, rfl⟩))
            clear hw hu hs
            go_loop [36] (fun i => ∃ m : Nat, m ≤ y.cols.length ∧ i = .int .i64 (m : Int) ∧ Hid (∀ j (hj : j < y.cols.length), j < m → y.cols[j] ∈ ids)) (fun i => y.cols.length - (intOf i).toNat)
            case atStart => exact ⟨0, by omega, rfl, fun _ _ h => absurd h (Nat.not_lt_zero _)⟩
            case round =>
              obtain ⟨m, hm, rfl, HM⟩ := hrel
              by_cases hml : m < y.cols.length
              · obtain ⟨a2, rfl, hblk2, e0⟩ := hl2' m y.cols[m] (List.getElem?_eq_getElem hml)
                rw [Nat.mul_one] at e0
                unfold NumAt at e0
                have hc := contains_any aoi capi ids (by omega) y.cols[m] _ hi'
                by_cases hx : y.cols[m] ∈ ids
                · have HM2 : Hid (∀ j (hj : j < y.cols.length), j < m + 1 → y.cols[j] ∈ ids) := by
                    intro j hj hjm
                    by_cases h : j = m
                    · subst h
                      exact hx
                    · exact HM.out j hj (by omega)
                  rw [tru_yes hx] at hc
                  clear HM hx HKs' HKn'
                  generalize y.cols[m] = d at *
                  go_wp2_with (go_at_call 65; refine hc.mono ?_; rintro e w1 ⟨rfl, hw1⟩; subst hw1)
                  go_round
                  case rel => exact ⟨m + 1, by omega, by go_num, HM2⟩
                  case measure => simp [intOf]; omega
                · have hno := HKn' (fun h => hx (h _ (List.getElem_mem hml)))
                  rw [tru_no hx] at hc
                  clear HM hx HKs' HKn'
                  generalize y.cols[m] = d at *
                  go_wp2_with (go_at_call 65; refine hc.mono ?_; rintro e w1 ⟨rfl, hw1⟩; subst hw1)
                  go_ret
                  rw [tru_no hno.out]
                  exact ⟨rfl, hbel.alloc hsz _⟩
              · have HK2 := HKs' (fun d hd => by
                  obtain ⟨j, hj, rfl⟩ := List.getElem_of_mem hd
                  exact HM.out j hj (by omega))
                clear HM HKs' HKn'
                go_wp2_with (first
                  | (at_builtin; refine wpList_appRowS _ rfl _ _ rfl w.heap.size _ L rfl ((hrow.alloc _).alloc _) _ _ _ rfl (one_cellB _ _ _ _ (by simp)) (by omega) (by simp; omega) ?_; intro v3 w3 hrow3 hbel3 hst3))
                obtain ⟨g1, g2⟩ := hstep _ _ _ _ hrow3 hbel3
                go_roundw
                case rel => exact ⟨k + 1, by omega, by go_num, g1, g2, HK2⟩
                case measure => simp [intOf]; omega
          · rw [tru_no q3] at hs
            have hno := HKn (fun h => q3 h.2.2.1)
            clear q1 q2 q3 HKs HKn
            go_wp2_with (first
              | (go_at_call 25; refine (hw _).mono ?_; rintro e w1 ⟨rfl, rfl⟩)
              | (go_at_call 64; refine hu.mono ?_; rintro e w1 ⟨rfl, hw1⟩; subst hw1)
              | (go_at_call 62; refine (hs _).mono ?_; rintro e w1 ⟨rfl, rfl⟩))
            go_ret
            rw [tru_no hno.out]
            exact ⟨rfl, hbel.alloc hsz _⟩
        · rw [tru_no q2] at hu
          have hno := HKn (fun h => q2 h.2.1)
          clear q1 q2 HKs HKn
          go_wp2_with (first
            | (go_at_call 25; refine (hw _).mono ?_; rintro e w1 ⟨rfl, rfl⟩)
            | (go_at_call 64; refine hu.mono ?_; rintro e w1 ⟨rfl, hw1⟩; subst hw1)
            | (go_at_call 62; refine (hs _).mono ?_; rintro e w1 ⟨rfl, rfl⟩))
          go_ret
          rw [tru_no hno.out]
          exact ⟨rfl, hbel.alloc hsz _⟩
      · rw [tru_no q1] at hw
        have hno := HKn (fun h => q1 h.1)
        have hu : True := trivial
        clear q1 HKs HKn
        go_wp2_with (first
          | (go_at_call 25; refine (hw _).mono ?_; rintro e w1 ⟨rfl, rfl⟩))
        go_ret
        rw [tru_no hno.out]
        exact ⟨rfl, hbel.alloc hsz _⟩
    · have hke : k = l.length := by omega
      subst hke
      rw [List.take_length] at hrow
      obtain ⟨ao5, cap5, rfl, hcap, hlS⟩ := hrow.lies
      have hn := mayNames_any ao5 cap5 (l.map Idx.name) (by rw [List.length_map]; omega) hcap wr hlS
      have he : Hid (tru (IxsM l ids) = tru (NamesOk (l.map Idx.name))) := tru_iff ⟨fun h => h.2, fun h => ⟨fun x hx => by
        obtain ⟨j, hj, rfl⟩ := List.getElem_of_mem hx
        exact HK.out j hj hj, h⟩⟩
      clear HK hrow hlS hcap hlt
      generalize tru (NamesOk (l.map Idx.name)) = c at *
      generalize l.map Idx.name = L at *
      go_wp2_with (go_at_call 27; refine hn.mono ?_; rintro e w1 ⟨rfl, rfl⟩)
      go_ret
      rw [he.out]
      exact ⟨rfl, hbel⟩
end Go.Proofs.Ytndppffcladalaa
