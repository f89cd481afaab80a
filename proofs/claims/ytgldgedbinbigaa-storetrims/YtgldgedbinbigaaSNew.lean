/-
  Contracts: New of a store (8.1); an error's number; a store of the document's example.
-/
import Derived.Test.YtgldgedbinbigaaSTrm
namespace Go.Proofs.Ytgldgedbinbigaa
open Go.RowKit Go.Maps Num
open scoped Classical
set_option linter.unusedVariables false

theorem num_any (n : Int) (w : World) : Calls Try.prog 13 #[.int .i64 n] w fun e w' => e = .returned (.int .i64 n) ∧ w' = w := by
  go_enter Try.func13, Try.ntmps13
  go_wp2
  go_ret
  exact ⟨rfl, rfl⟩
theorem new_no (room : Int) (h : room < 1 ∨ 4096 < room) (w : World) : Calls Try.prog 11 #[.int .i64 room] w fun e w' => e = .returned (.tuple #[.pointer none, .int .i64 1]) ∧ w' = w := by
  by_cases h1 : room < 1
  · go_enter Try.func11, Try.ntmps11
    go_wp2
    go_ret2
    exact ⟨rfl, rfl⟩
  · have h2 : 4096 < room := by omega
    have h3 : decide (room < 1) = false := decide_eq_false h1
    clear h
    go_enter Try.func11, Try.ntmps11
    go_wp2
    go_ret2
    exact ⟨rfl, rfl⟩
theorem hold_new (room : Int) (h1 : 1 ≤ room) (w : World) (b : Nat) (hb : w.heap.size = b) : HoldP b ((w.alloc (.map #[] 0)).alloc (.cells #[.int .i64 room, .int .i64 0, .int .i64 0, .map (some b), .slice none 0 0] 57)) (b + 1) ⟨room, 0, []⟩ := by
  subst hb
  have hm := World.ownsMap_made (H := Value) w Try.prog 9 selfR
  refine ⟨w.heap.size, .map [], fun _ => 0, fun _ => 0, none, 0, [], ⟨⟨?_, by omega, Nat.le_refl _, hm.alloc _, ⟨fun k _ => rfl, fun k hk => absurd rfl hk, fun k hk => absurd rfl hk, fun k k' hk => absurd rfl hk⟩, OwnS.nil _ _ _ _ _⟩, ⟨right_nil, fun x => ?_⟩, rfl, inv_new room (by omega), fun v hv => by cases hv⟩⟩
  · exact heap_newB _ _ _ (by simp)
  · constructor
    · intro hx
      cases hx
    · rintro ⟨_, hx⟩
      exact absurd rfl hx
theorem new_yes (room : Int) (h1 : 1 ≤ room) (h2 : room ≤ 4096) (w : World) : Calls Try.prog 11 #[.int .i64 room] w fun e w' => ∃ g, e = .returned (.tuple #[.pointer (some ⟨g, 0, none⟩), .int .i64 0]) ∧ HoldP w.heap.size w' g ⟨room, 0, []⟩ ∧ Below w.heap.size w w' := by
  have hmm := @run_makeMap Try.prog
  have hh := hold_new room h1 w w.heap.size rfl
  have hb : Below w.heap.size w ((w.alloc (.map #[] 0)).alloc (.cells #[.int .i64 room, .int .i64 0, .int .i64 0, .map (some w.heap.size), .slice none 0 0] 57)) := boxes_below w _ _
  have h3 : decide (room < 1) = false := decide_eq_false (by omega)
  have h4 : decide (4096 < room) = false := decide_eq_false (by omega)
  go_enter Try.func11, Try.ntmps11
  go_wp2
  go_ret2
  exact ⟨w.heap.size + 1, rfl, hh, hb⟩
/-! The document's example, as plain lists. -/
theorem one_key {l : List Ver} {k : ByteArray} (h : ∀ v ∈ l, v.key = k) : keyV l k = l := by
  unfold keyV
  rw [List.filter_eq_self]
  exact fun v hv => isKey_iff.2 (h v hv)
theorem example_put (k x : ByteArray) : putS ⟨5, 0, []⟩ ⟨k, 1, x, false⟩ = (0, ⟨5, 1, [⟨k, 1, x, false⟩]⟩) := by
  simp [putS, lastA, lastAt]
theorem example_del (k x : ByteArray) : putS ⟨5, 1, [⟨k, 1, x, false⟩]⟩ ⟨k, 2, ⟨#[]⟩, true⟩ = (0, ⟨5, 2, [⟨k, 1, x, false⟩, ⟨k, 2, ⟨#[]⟩, true⟩]⟩) := by
  have hl : lastA [⟨k, 1, x, false⟩] k = some ⟨k, 1, x, false⟩ := by rw [lastA_key, one_key (by simp)]; rfl
  simp [putS, hl, lastAt, noneLeft]
theorem example_ver (k x : ByteArray) (t : Int) : verT [⟨k, 1, x, false⟩, ⟨k, 2, ⟨#[]⟩, true⟩] k t = [⟨k, 1, x, false⟩, ⟨k, 2, ⟨#[]⟩, true⟩].filter (fun v => decide (v.time ≤ t)) := by
  rw [verT_key, one_key (by simp)]
theorem example_get1 (k x : ByteArray) : getV [⟨k, 1, x, false⟩, ⟨k, 2, ⟨#[]⟩, true⟩] k 1 = some x := by
  unfold getV lastV
  rw [example_ver]
  rfl
theorem example_get2 (k x : ByteArray) : getV [⟨k, 1, x, false⟩, ⟨k, 2, ⟨#[]⟩, true⟩] k 2 = none := by
  unfold getV lastV
  rw [example_ver]
  rfl
theorem example_last (k x : ByteArray) : lastT [⟨k, 1, x, false⟩, ⟨k, 2, ⟨#[]⟩, true⟩] k = 2 := by
  unfold lastT
  rw [lastA_key, one_key (by simp)]
  rfl
theorem example_trim (k x : ByteArray) : (trimS ⟨5, 2, [⟨k, 1, x, false⟩, ⟨k, 2, ⟨#[]⟩, true⟩]⟩ 2).1 = 2 := by
  have h1 : verT [⟨k, 2, ⟨#[]⟩, true⟩] k 2 = [⟨k, 2, ⟨#[]⟩, true⟩] := by
    rw [verT_key, one_key (by simp)]
    rfl
  simp [trimS, trimAux, h1]
set_option maxRecDepth 100000 in
set_option maxHeartbeats 2000000 in
theorem awake_any (w : World) : Calls Try.prog 10 #[] w fun e w' => e = .returned (.bool true) ∧ Below w.heap.size w w' := by
  have hnew := new_yes 5 (by omega) (by omega) w
  have hput : ∀ g w1, HoldP w.heap.size w1 g ⟨5, 0, []⟩ → Calls Try.prog 15 #[.pointer (some ⟨g, 0, none⟩), .int .i64 1, .string ⟨#[97]⟩, .string ⟨#[120]⟩] w1 fun e w' => e = .returned (.int .i64 0) ∧ HoldP w.heap.size w' g ⟨5, 1, [⟨⟨#[97]⟩, 1, ⟨#[120]⟩, false⟩]⟩ ∧ TurnP w.heap.size w1 w' := fun g w1 h => by
    have := sput_any w.heap.size g _ 1 ⟨#[97]⟩ ⟨#[120]⟩ (by decide) (by simp) w1 h
    rw [example_put] at this
    exact this
  have hdel : ∀ g w1, HoldP w.heap.size w1 g ⟨5, 1, [⟨⟨#[97]⟩, 1, ⟨#[120]⟩, false⟩]⟩ → Calls Try.prog 18 #[.pointer (some ⟨g, 0, none⟩), .int .i64 2, .string ⟨#[97]⟩] w1 fun e w' => e = .returned (.int .i64 0) ∧ HoldP w.heap.size w' g ⟨5, 2, [⟨⟨#[97]⟩, 1, ⟨#[120]⟩, false⟩, ⟨⟨#[97]⟩, 2, ⟨#[]⟩, true⟩]⟩ ∧ TurnP w.heap.size w1 w' := fun g w1 h => by
    have := sdel_any w.heap.size g _ 2 ⟨#[97]⟩ (by decide) (by simp) w1 h
    rw [example_del] at this
    exact this
  have hget1 : ∀ g w1, HoldP w.heap.size w1 g ⟨5, 2, [⟨⟨#[97]⟩, 1, ⟨#[120]⟩, false⟩, ⟨⟨#[97]⟩, 2, ⟨#[]⟩, true⟩]⟩ → Calls Try.prog 22 #[.pointer (some ⟨g, 0, none⟩), .int .i64 1, .string ⟨#[97]⟩] w1 fun e w' => e = .returned (.tuple #[.string ⟨#[120]⟩, .bool true]) ∧ Below w1.heap.size w1 w' := fun g w1 h => by
    have := sget_any w.heap.size g _ 1 ⟨#[97]⟩ (by decide) (by simp) w1 h
    rw [example_get1] at this
    exact this
  have hget2 : ∀ g w1, HoldP w.heap.size w1 g ⟨5, 2, [⟨⟨#[97]⟩, 1, ⟨#[120]⟩, false⟩, ⟨⟨#[97]⟩, 2, ⟨#[]⟩, true⟩]⟩ → Calls Try.prog 22 #[.pointer (some ⟨g, 0, none⟩), .int .i64 2, .string ⟨#[97]⟩] w1 fun e w' => e = .returned (.tuple #[.string ⟨#[]⟩, .bool false]) ∧ Below w1.heap.size w1 w' := fun g w1 h => by
    have := sget_any w.heap.size g _ 2 ⟨#[97]⟩ (by decide) (by simp) w1 h
    rw [example_get2] at this
    exact this
  have hlast : ∀ g w1, HoldP w.heap.size w1 g ⟨5, 2, [⟨⟨#[97]⟩, 1, ⟨#[120]⟩, false⟩, ⟨⟨#[97]⟩, 2, ⟨#[]⟩, true⟩]⟩ → Calls Try.prog 23 #[.pointer (some ⟨g, 0, none⟩), .string ⟨#[97]⟩] w1 fun e w' => e = .returned (.int .i64 2) ∧ w' = w1 := fun g w1 h => by
    have := slast_any w.heap.size g _ ⟨#[97]⟩ (by decide) (by simp) w1 h
    rw [example_last] at this
    exact this
  have htrim : ∀ g w1, HoldP w.heap.size w1 g ⟨5, 2, [⟨⟨#[97]⟩, 1, ⟨#[120]⟩, false⟩, ⟨⟨#[97]⟩, 2, ⟨#[]⟩, true⟩]⟩ → Calls Try.prog 21 #[.pointer (some ⟨g, 0, none⟩), .int .i64 2] w1 fun e w' => e = .returned (.int .i64 2) ∧ TurnP w.heap.size w1 w' := fun g w1 h => by
    have := strim_any w.heap.size g _ 2 (by simp) w1 h
    rw [example_trim] at this
    exact this.mono fun e w' h => ⟨h.1, h.2.2⟩
  go_enter Try.func10, Try.ntmps10
  go_wp2_with (first
    | (go_at_call 13; refine (num_any _ _).mono ?_; rintro e wn ⟨rfl, hq⟩; have hq' := hq.symm; clear hq; subst hq')
    | (go_at_call 11; refine hnew.mono ?_; rintro e w1 ⟨g, rfl, hh1, hb1⟩; clear hnew)
    | (go_at_call 15; refine (hput g w1 hh1).mono ?_; rintro e w2 ⟨rfl, hh2, hT2⟩; clear hput)
    | (go_at_call 18; refine (hdel g w2 hh2).mono ?_; rintro e w3 ⟨rfl, hh3, hT3⟩; clear hdel)
    | (go_at_call 22; refine (hget2 g w4 hh4).mono ?_; rintro e w5 ⟨rfl, hb5⟩; clear hget2; have hh5 := hh4.below hb5)
    | (go_at_call 22; refine (hget1 g w3 hh3).mono ?_; rintro e w4 ⟨rfl, hb4⟩; clear hget1; have hh4 := hh3.below hb4)
    | (go_at_call 23; refine (hlast g w5 hh5).mono ?_; rintro e wl ⟨rfl, hq⟩; have hq' := hq.symm; clear hq; subst hq'; clear hlast)
    | (go_at_call 21; refine (htrim g w5 hh5).mono ?_; rintro e w6 ⟨rfl, hT6⟩; clear htrim))
  go_ret
  have s1 := hb1.size
  have s2 := hT2.below.size
  have s3 := hT3.below.size
  have s4 := hb4.size
  exact ⟨rfl, ((((hb1.trans hT2.below).trans hT3.below).trans (hb4.mono (by omega))).trans (hb5.mono (by omega))).trans hT6.below⟩
end Go.Proofs.Ytgldgedbinbigaa
