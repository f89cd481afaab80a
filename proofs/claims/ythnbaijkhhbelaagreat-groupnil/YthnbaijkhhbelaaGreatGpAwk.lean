/-
  Contracts: the document's example of a group; the number of an error.
-/
import Derived.Test.YthnbaijkhhbelaaGreatGpN
import Derived.Test.YthnbaijkhhbelaaGreatRpAwk
namespace Go.Proofs.YthnbaijkhhbelaaGreat
open Go.RowKit Num
open scoped Classical
set_option linter.unusedVariables false
set_option maxRecDepth 100000

theorem gnum_any (n : Int) (w : World) : Calls Tryz.prog 13 #[.int .i64 n] w fun e w' => e = .returned (.int .i64 n) ∧ w' = w := by
  go_enter Tryz.func13, Tryz.ntmps13
  go_wp2
  go_ret
  exact ⟨rfl, rfl⟩
theorem beg_at {ms : List Mbr} (h : plainG ms = begG 3 3) : ms.length = 3 ∧ ∃ s, ms[0]? = some ⟨newR 0 3, s, true⟩ := by
  have hl : ms.length = 3 := by rw [← plain_len, h, beg_len]
  refine ⟨hl, ?_⟩
  have h0 : (plainG ms)[0]? = some (newR 0 3, true) := by rw [h]; rfl
  simp only [plainG, List.getElem?_map, Option.map_eq_some_iff] at h0
  obtain ⟨m, h1, h2⟩ := h0
  obtain ⟨r, s, up⟩ := m
  cases h2
  exact ⟨s, h1⟩
theorem awake_pro (d : ByteArray) (hd : d.size ≤ 20000) (B g b : Nat) (w : World) (h : HoldG B w g b (begG 3 3) []) :
    Calls Tryz.prog 21 #[.pointer (some ⟨g, 0, none⟩), .int .i64 0, .int .i64 5, .string d] w fun e w' => e = .returned (.tuple #[.int .i64 1, .int .i64 0]) ∧ (∃ cap no nc ms net, GrpAt B w' g b cap no nc ms net ∧ net.length = 2 ∧ ms.length ≤ 5 ∧ ∃ m, runsG ms 0 = some m ∧ m.up = true) ∧ Below B w w' := by
  obtain ⟨cap, no, nc, ms, hA, hP⟩ := h
  obtain ⟨hl, s, h0⟩ := beg_at hP
  have hp := fun W hW => propose_ok (newR 0 3) s 5 d ⟨Nat.zero_le _, Nat.zero_le _, by simp [newR], Nat.zero_le _, Nat.zero_le _⟩ new_may (propR (newR 0 3) ⟨5, d⟩) (propM (newR 0 3) ⟨5, d⟩) 1 (fun B g W h => prop_yesa B g (newR 0 3) 5 0 d W h ⟨Int.le_refl _, by show (0 : Int) < _; omega⟩ rfl ⟨Int.le_refl _, by omega⟩ ⟨⟨by omega, by omega⟩, hd⟩ ⟨rfl, rfl⟩ (by omega) (by omega) (by simp [newR, rep0]) (by omega)) W hW
  have hout : NetOk (propM (newR 0 3) ⟨5, d⟩) := ⟨by show (2 : Nat) ≤ 1000; omega, fun x hx => by
    have h2 : propM (newR 0 3) ⟨5, d⟩ = [toM (propR (newR 0 3) ⟨5, d⟩) (msg 1 1 0 0 [⟨5, d⟩]) 1, toM (propR (newR 0 3) ⟨5, d⟩) (msg 1 1 0 0 [⟨5, d⟩]) 2] := rfl
    rw [h2] at hx
    simp only [List.mem_cons, List.not_mem_nil, or_false] at hx
    rcases hx with rfl | rfl <;> exact Nat.le_of_ble_eq_true rfl⟩
  refine (gpro_yes hA (by omega) h0 5 d (propR (newR 0 3) ⟨5, d⟩) (propM (newR 0 3) ⟨5, d⟩) 1 0 hp ⟨Nat.zero_le _, by simp⟩ hout).mono ?_
  rintro e w' ⟨rfl, hy, _, hs⟩
  obtain ⟨s', no', nc', hG⟩ := hy rfl
  refine ⟨rfl, ⟨cap, no', nc', _, _, hG, rfl, by rw [List.length_set]; omega, ⟨propR (newR 0 3) ⟨5, d⟩, s', true⟩, ?_, rfl⟩, hs.below hA.base hA.bound.1 hA.heap⟩
  have := runs_at (ms := ms.set 0 ⟨propR (newR 0 3) ⟨5, d⟩, s', true⟩) (k := 0) (m := ⟨propR (newR 0 3) ⟨5, d⟩, s', true⟩) (by rw [List.getElem?_set_self (by omega)])
  exact this
set_option maxRecDepth 100000 in
set_option maxHeartbeats 1000000 in
theorem gawake_any (w : World) : Calls Tryz.prog 10 #[] w fun e w' => e = .returned (.bool true) ∧ Below w.heap.size w w' := by
  have hnew : Calls Tryz.prog 11 #[.int .i64 3] w fun e w' => ∃ b, e = .returned (.tuple #[.pointer (some ⟨w.heap.size, 0, none⟩), .int .i64 0]) ∧ HoldG w.heap.size w' w.heap.size b (begG 3 3) [] ∧ Below w.heap.size w w' := gnew_any 3 (.inr (.inl rfl)) w
  have hnum := fun n W => gnum_any n W
  have hpro := fun b W h => awake_pro { data := #[120] } (by decide) w.heap.size w.heap.size b W h
  go_enter Tryz.func10, Tryz.ntmps10
  go_wp2_with (first
    | (go_at_call 11; refine hnew.mono ?_; rintro e w1 ⟨b, rfl, hG, hb1⟩; have hp := hpro b w1 hG; clear hnew hpro hG)
    | (go_at_call 21; refine hp.mono ?_; rintro e w2 ⟨rfl, ⟨cap, no, nc, ms, net, hA, hn2, hl5, m, hm, hup⟩, hb2⟩; have hun := under_any hA; have hru := runs_any hA hl5 0; rw [hm] at hru; simp only [hup] at hru; have i2 : ((net.length : Nat) : Int) = 2 := (by omega); clear hp hA hm hup)
    | (go_at_call 22; refine hun.mono ?_; rintro e wn ⟨rfl, hq⟩; have hq' := hq.symm; clear hq; subst hq')
    | (go_at_call 26; refine hru.mono ?_; rintro e wn ⟨rfl, hq⟩; have hq' := hq.symm; clear hq; subst hq')
    | (go_at_call 13; refine (hnum _ _).mono ?_; rintro e wn ⟨rfl, hq⟩; have hq' := hq.symm; clear hq; subst hq'))
  go_ret
  exact ⟨rfl, hb1.trans hb2⟩
end Go.Proofs.YthnbaijkhhbelaaGreat
