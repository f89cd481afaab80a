/-
  Contracts: what is behind all texts that begin so: of the program and of the document's own.
-/
import Derived.Test.YtpjhkfebdgiejaaVPut
import Derived.Test.YtpjhkfebdgiejaaVGetM
import Derived.Test.YtpjhkfebdgiejaaTAftM
import Derived.Lib.ConvBytes
import Derived.Lib.Strings
namespace Go.Proofs.Ytpjhkfebdgiejaa
open Go.RowKit Num
set_option linter.unusedVariables false

theorem head_data (s : ByteArray) (k : Nat) : (s.extract 0 k).data.toList = s.data.toList.take k := by
  rw [Go.Lib.extract_data]
  simp

/-- '[]byte(s)': a new row that holds the bytes. -/
theorem bytes_new (s : ByteArray) (w : World) : ∃ cap W, (convert 9 44 (.string s)).run Try.prog w = .ok (.slice (some ⟨w.heap.size, 0, none⟩) s.size cap) W ∧
    Below w.heap.size w W ∧ ∀ j, j < s.size → W.cell? ⟨w.heap.size, j, none⟩ = some (.int .u8 ((s.data.toList.getD j 0).toNat : Int)) ∧ W.frozen? ⟨w.heap.size, j, none⟩ = false := by
  refine ⟨_, _, Go.Lib.run_convert_string_bytes w 9 44 5 s Try.underlying9 Try.underlying44 Try.underlying5, ?_, ?_⟩
  · refine ⟨rfl, rfl, rfl, ?_, fun k hk => Go.Lib.bytesWorld_at_old w _ s k hk⟩
    rw [Go.Lib.bytesWorld_size]
    omega
  · intro j hj
    refine ⟨Go.Lib.bytesWorld_cell w _ s j hj, ?_⟩
    simp only [World.frozen?, Go.Lib.bytesWorld_at_new]
    simp [Go.Lib.bytesCells]
    intro h
    omega

/-- Behind the loop: the bytes up to the last that is no 255, that one more, as a text. -/
theorem back_conv (s : ByteArray) (k : Nat) (hk : k < s.size) (cap : Nat) (g : Nat) (W : World) (hW : ∀ j, j < k + 1 → W.cell? ⟨g, j, none⟩ = some (.int .u8 (((s.extract 0 (k + 1)).data.toList.getD j 0).toNat : Int))) (x : Int) (hx : x = ((s[k] + 1).toNat : Int)) :
    (convert 44 9 (.slice (some ⟨g, 0, none⟩) (k + 1) cap)).run Try.prog (W.setCell ⟨g, k, none⟩ (.int .u8 x)) = .ok (.string (str (s.data.toList.take k ++ [s[k] + 1]))) (W.setCell ⟨g, k, none⟩ (.int .u8 x)) := by
  subst hx
  have hl : (s.data.toList.take k ++ [s[k] + 1]).length = k + 1 := by
    have : s.data.toList.length = s.size := rfl
    simp
    omega
  have h := run_convert_bytes_back (P := Try.prog) (W.setCell ⟨g, k, none⟩ (.int .u8 ((s[k] + 1).toNat : Int))) 44 9 5 ⟨g, 0, none⟩ cap (s.data.toList.take k ++ [s[k] + 1]) Try.underlying44 Try.underlying5 Try.underlying9 ?_
  · rw [hl] at h
    exact h
  · intro j hj
    rw [hl] at hj
    have hd : s.data.toList.length = s.size := rfl
    rw [Addr.add_lit, Nat.zero_add]
    by_cases hjk : j = k
    · subst hjk
      rw [World.cell?_setCell_same' _ _ _ (by rw [hW j (by omega)]; rfl)]
      rw [List.getElem_append_right (by simp; omega)]
      simp
    · rw [World.cell?_setCell_other W _ _ _ (show (⟨g, k, none⟩ : Addr) ≠ ⟨g, j, none⟩ by intro h; cases h; exact hjk rfl), hW j (by omega), head_data]
      rw [List.getElem_append_left (by simp; omega)]
      simp [List.getD, show j < k + 1 by omega, hd, show j < s.size by omega]

theorem after_any (s : ByteArray) (hs : s.size ≤ 900000) (w : World) :
    Calls Try.prog 17 #[.string s] w fun e w' => e = .returned (aftV (aft s.data.toList)) ∧ Below w.heap.size w w' := by
  go_enter Try.func17, Try.ntmps17
  go_wp2
  go_loopw [4] (fun i wr => ∃ k : Nat, k ≤ s.size ∧ i = .int .i64 (k : Int) ∧ Hid (aftR (s.data.toList.take k).reverse = aftR s.data.toList.reverse) ∧ wr = w) (fun i _ => (intOf i).toNat)
  case atStart => exact ⟨s.size, by omega, rfl, by unfold Hid; rw [List.take_of_length_le (by simp)], rfl⟩
  case round =>
    obtain ⟨k, hk, rfl, HK, rfl⟩ := hrel
    cases k with
    | zero =>
      have hv := aft_none HK.out
      go_wp2
      go_ret2
      rw [hv]
      exact ⟨rfl, Below.refl _ _⟩
    | succ k =>
      by_cases hb : s[k] = 255
      · have HK2 : Hid (aftR (s.data.toList.take k).reverse = aftR s.data.toList.reverse) := by
          unfold Hid
          rw [← aftR_255 s k (by omega) hb]
          exact HK.out
        clear HK
        go_wp2
        go_roundw
        case rel => exact ⟨k, by omega, by go_num, HK2, trivial⟩
        case measure => simp [intOf]
      · have hv := aft_some (by omega) hb HK.out
        clear HK
        have hsz : (s.extract 0 (k + 1)).size = k + 1 := by simp; omega
        obtain ⟨cap, W, hcv, hbW, hcell⟩ := bytes_new (s.extract 0 (k + 1)) wr
        rw [hsz] at hcv hcell
        have hk1 := (hcell k (by omega)).1
        have hk2 := (hcell k (by omega)).2
        have hback := back_conv s k (by omega) cap wr.heap.size W (fun j hj => (hcell j hj).1)
        have hgd : (s.extract 0 (k + 1)).data.toList.getD k 0 = s[k] := by
          rw [head_data]
          have hd : s.data.toList.length = s.size := rfl
          simp [List.getD, hd, show k < s.size by omega]
          rfl
        rw [hgd] at hk1
        clear hcell hgd
        have hb1 : ¬ ((s[k].toNat : Nat) : Int) = 255 := by
          intro h
          exact hb (UInt8.toNat_inj.1 (by rw [show (255 : UInt8).toNat = 255 from rfl]; omega))
        go_wp2
        go_ret2
        rw [hv]
        exact ⟨rfl, hbW.setCell (Nat.le_refl _) _⟩

theorem refAfter_any (s : ByteArray) (hs : s.size ≤ 900000) (w : World) :
    Calls Try.prog 18 #[.string s] w fun e w' => e = .returned (aftV (aft s.data.toList)) ∧ Below w.heap.size w w' := by
  go_enter Try.func18, Try.ntmps18
  go_wp2
  go_loopw [4] (fun i wr => ∃ k : Nat, k ≤ s.size ∧ i = .int .i64 (k : Int) ∧ Hid (aftR (s.data.toList.take k).reverse = aftR s.data.toList.reverse) ∧ wr = w) (fun i _ => (intOf i).toNat)
  case atStart => exact ⟨s.size, by omega, rfl, by unfold Hid; rw [List.take_of_length_le (by simp)], rfl⟩
  case round =>
    obtain ⟨k, hk, rfl, HK, rfl⟩ := hrel
    cases k with
    | zero =>
      have hv := aft_none HK.out
      go_wp2
      go_ret2
      rw [hv]
      exact ⟨rfl, Below.refl _ _⟩
    | succ k =>
      by_cases hb : s[k] = 255
      · have HK2 : Hid (aftR (s.data.toList.take k).reverse = aftR s.data.toList.reverse) := by
          unfold Hid
          rw [← aftR_255 s k (by omega) hb]
          exact HK.out
        clear HK
        go_wp2
        go_roundw
        case rel => exact ⟨k, by omega, by go_num, HK2, trivial⟩
        case measure => simp [intOf]
      · have hv := aft_some (by omega) hb HK.out
        clear HK
        have hsz : (s.extract 0 (k + 1)).size = k + 1 := by simp; omega
        obtain ⟨cap, W, hcv, hbW, hcell⟩ := bytes_new (s.extract 0 (k + 1)) wr
        rw [hsz] at hcv hcell
        have hk1 := (hcell k (by omega)).1
        have hk2 := (hcell k (by omega)).2
        have hback := back_conv s k (by omega) cap wr.heap.size W (fun j hj => (hcell j hj).1)
        have hgd : (s.extract 0 (k + 1)).data.toList.getD k 0 = s[k] := by
          rw [head_data]
          have hd : s.data.toList.length = s.size := rfl
          simp [List.getD, hd, show k < s.size by omega]
          rfl
        rw [hgd] at hk1
        clear hcell hgd
        have hb1 : ¬ ((s[k].toNat : Nat) : Int) = 255 := by
          intro h
          exact hb (UInt8.toNat_inj.1 (by rw [show (255 : UInt8).toNat = 255 from rfl]; omega))
        go_wp2
        go_ret2
        rw [hv]
        exact ⟨rfl, hbW.setCell (Nat.le_refl _) _⟩
end Go.Proofs.Ytpjhkfebdgiejaa
