/-
  Joined:
  Contract: strings.Clone hands back the same text: the library's own contract of what it calls, laid at this program.
  Contracts: the text ahead of a sum: of the program and of the document's own.
-/
import Derived.Test.YtclliljkmmpglaaGreatBase
import Derived.Shelf.LaysM
import Derived.Shelf.Strconv.Clone
import Derived.Test.YtclliljkmmpglaaGreatSeal
namespace Go.Proofs.YtclliljkmmpglaaGreat
open Go.RowKit Go.Shelf

/-- Where the contract's numbers stand here. -/
def cloneRen : Ren := ⟨fun | 316 => 132 | n => n, fun | 0 => 0 | 3 => 3 | 4 => 4 | 9 => 9 | 37 => 78 | 127 => 222 | 5 => 5 | n => n, fun | n => n⟩
theorem cloneLays : LaysM.n316 Tryz.prog cloneRen := {
  mixed := by kernel_rfl
  f316 := Tryz.func132.trans (congrArg some (by kernel_rfl))
  t0 := Tryz.underlying0
  a0 := Tryz.isAgg0
  z0 := Tryz.sizeOf0
  v0 := Tryz.zeroValue0
  t3 := Tryz.underlying3
  a3 := Tryz.isAgg3
  z3 := Tryz.sizeOf3
  v3 := Tryz.zeroValue3
  t4 := Tryz.underlying4
  a4 := Tryz.isAgg4
  z4 := Tryz.sizeOf4
  v4 := Tryz.zeroValue4
  t9 := Tryz.underlying9
  a9 := Tryz.isAgg9
  z9 := Tryz.sizeOf9
  v9 := Tryz.zeroValue9
  t37 := Tryz.underlying78
  a37 := Tryz.isAgg78
  z37 := Tryz.sizeOf78
  v37 := Tryz.zeroValue78
  t127 := Tryz.underlying222
  a127 := Tryz.isAgg222
  z127 := Tryz.sizeOf222
  v127 := Tryz.zeroValue222
  t5 := Tryz.underlying5
  a5 := Tryz.isAgg5
  z5 := Tryz.sizeOf5
  v5 := Tryz.zeroValue5
  i0 := by kernel_rfl
  i3 := by kernel_rfl
  i4 := by kernel_rfl
  i9 := by kernel_rfl
  i37 := by kernel_rfl
  i127 := by kernel_rfl
  i5 := by kernel_rfl }
theorem strclone_any (s : ByteArray) (hs : s.size ≤ 900000) (w : World) :
    Calls Tryz.prog 105 #[.string s] w fun e w' => e = .returned (.string s) ∧ Below w.heap.size w w' := by
  have h : ∀ w, Calls Tryz.prog 132 #[.string s] w fun e w' => e = .returned (.string s) ∧ Below w.heap.size w w' := fun w => Any.stringslite_Clone cloneLays s w (by omega)
  go_enter Tryz.func105, Tryz.ntmps105
  go_wp2_with (go_at_call 132; refine (h _).mono ?_; rintro e w1 ⟨rfl, hb1⟩)
  go_ret
  exact ⟨rfl, hb1⟩
end Go.Proofs.YtclliljkmmpglaaGreat
namespace Go.Proofs.YtclliljkmmpglaaGreat
open Go.RowKit Num
set_option linter.unusedVariables false
set_option maxRecDepth 100000

/-- What Get tells. -/
def Num.openV : Option (List UInt8) → Value
  | some l => .tuple #[.string (str l), .int .i64 0]
  | none => .tuple #[.string ⟨#[]⟩, .int .i64 3]

theorem list_ne {a b : ByteArray} (h : ¬ a = b) : (a.toList == b.toList) = false := by
  rw [Lib.toList_data, Lib.toList_data, beq_eq_false_iff_ne]
  intro e
  exact h (by rw [← str_self a, e, str_self b])
theorem open_short (s : ByteArray) (h : s.size < 4) : openL s.data.toList = none := by
  unfold openL
  rw [if_pos (show s.data.toList.length < 4 from h)]
theorem open_long (s : ByteArray) (k : Nat) (hk : s.size = k + 4) : openL s.data.toList = if s.extract k (k + 4) = str (be4 (sumL (s.extract 0 k).data.toList)) then some (s.extract 0 k).data.toList else none := by
  have hd : s.data.toList.length = s.size := rfl
  have e1 : (s.extract 0 k).data.toList = s.data.toList.take k := by rw [Lib.extract_data]; simp
  have e2 : (s.extract k (k + 4)).data.toList = s.data.toList.drop k := by rw [Lib.extract_data, List.take_of_length_le (by rw [List.length_drop, hd]; omega)]
  unfold openL
  rw [if_neg (by omega), hd, hk, Nat.add_sub_cancel, e1]
  have e3 : (s.data.toList = sealL (s.data.toList.take k)) ↔ (s.extract k (k + 4) = str (be4 (sumL (s.data.toList.take k)))) := by
    unfold sealL
    constructor
    · intro h
      have h2 : s.data.toList.drop k = be4 (sumL (s.data.toList.take k)) := by
        exact (congrArg (List.drop k) h).trans (List.drop_left' (by rw [List.length_take]; omega))
      rw [← h2, ← e2]
      exact (str_self _).symm
    · intro h
      have h2 : s.data.toList.drop k = be4 (sumL (s.data.toList.take k)) := by rw [← e2, h, str_data]
      rw [← h2, List.take_append_drop]
  by_cases hc : s.data.toList = sealL (s.data.toList.take k)
  · rw [if_pos hc, if_pos (e3.1 hc)]
  · rw [if_neg hc, if_neg (fun h => hc (e3.2 h))]

theorem sealget_any (s : ByteArray) (hs : s.size ≤ 900000) (w : World) :
    Calls Tryz.prog 67 #[.string s] w fun e w' => e = .returned (openV (openL s.data.toList)) ∧ Below w.heap.size w w' := by
  by_cases h4 : s.size < 4
  · rw [open_short s h4, show openV none = .tuple #[.string ⟨#[]⟩, .int .i64 3] from rfl]
    have hd : decide ((s.size : Int) - 4 < 0) = true := decide_eq_true (by omega)
    go_enter Tryz.func67, Tryz.ntmps67
    go_wp2_with fail
    refine wp_region_low (by kernel_rfl) (by kernel_rfl) fun hsome => ?_
    repeat (go_big_quiet_step (fail))
    refine wpQuiet_nil ?_
    rintro _ ⟨x, rfl⟩
    go_wp2
    go_ret2
    exact ⟨rfl, x.low⟩
  · obtain ⟨k, hk⟩ : ∃ k, s.size = k + 4 := ⟨s.size - 4, by omega⟩
    rw [open_long s k hk]
    have hk2 : (s.size : Int) - 4 = (k : Int) := by omega
    have hx : (s.extract 0 k).size = k := by simp; omega
    have h1 := sealsum_any (s.extract 0 k) (by omega)
    have h3 := strclone_any (s.extract 0 k) (by omega)
    have hd : decide ((k : Int) < 0) = false := decide_eq_false (by omega)
    have hlt := sumL_lt (s.extract 0 k).data.toList
    generalize sumL (s.extract 0 k).data.toList = n at *
    have h2 := written_any n hlt
    generalize str (be4 n) = B at *
    by_cases hc : s.extract k (k + 4) = B
    · rw [if_pos hc, show openV (some (s.extract 0 k).data.toList) = .tuple #[.string (str (s.extract 0 k).data.toList), .int .i64 0] from rfl, str_self]
      go_enter Tryz.func67, Tryz.ntmps67
      go_wp2_with fail
      refine wp_region_low (by kernel_rfl) (by kernel_rfl) fun hsome => ?_
      repeat (go_big_quiet_step (first
        | (go_at_call 104; refine Calls.low_of_same (h1 _))
        | (go_at_call 103; refine Calls.low_of (h2 _))))
      refine wpQuiet_nil ?_
      rintro _ ⟨x, rfl⟩
      go_wp2_with (go_at_call 105; refine (h3 _).mono ?_; rintro e w1 ⟨rfl, hb1⟩)
      go_ret2
      exact ⟨rfl, below_next x.low (Nat.le_refl _) hb1⟩
    · rw [if_neg hc, show openV none = .tuple #[.string ⟨#[]⟩, .int .i64 3] from rfl]
      clear h3
      have hc1 := list_ne hc
      go_enter Tryz.func67, Tryz.ntmps67
      go_wp2_with fail
      refine wp_region_low (by kernel_rfl) (by kernel_rfl) fun hsome => ?_
      repeat (go_big_quiet_step (first
        | (go_at_call 104; refine Calls.low_of_same (h1 _))
        | (go_at_call 103; refine Calls.low_of (h2 _))))
      refine wpQuiet_nil ?_
      rintro _ ⟨x, rfl⟩
      go_wp2
      go_ret2
      exact ⟨rfl, x.low⟩
theorem open_seals (s : ByteArray) (k : Nat) (hk : s.size = k + 4) : openL s.data.toList = if str (sealL (s.extract 0 k).data.toList) = s then some (s.extract 0 k).data.toList else none := by
  have hd : s.data.toList.length = s.size := rfl
  have e1 : (s.extract 0 k).data.toList = s.data.toList.take k := by rw [Lib.extract_data]; simp
  unfold openL
  rw [if_neg (by omega), hd, hk, Nat.add_sub_cancel, e1]
  by_cases hc : s.data.toList = sealL (s.data.toList.take k)
  · rw [if_pos hc, if_pos (by rw [← hc]; exact str_self s)]
  · rw [if_neg hc, if_neg (fun h => hc (by rw [← str_data (sealL (s.data.toList.take k)), h]))]
theorem refOpen_any (s : ByteArray) (hs : s.size ≤ 900000) (w : World) :
    Calls Tryz.prog 46 #[.string s] w fun e w' => e = .returned (openV (openL s.data.toList)) ∧ Below w.heap.size w w' := by
  by_cases h4 : s.size < 4
  · rw [open_short s h4, show openV none = .tuple #[.string ⟨#[]⟩, .int .i64 3] from rfl]
    have hd : decide ((s.size : Int) < 4) = true := decide_eq_true (by omega)
    go_enter Tryz.func46, Tryz.ntmps46
    go_wp2
    go_ret2
    exact ⟨rfl, Below.refl _ _⟩
  · obtain ⟨k, hk⟩ : ∃ k, s.size = k + 4 := ⟨s.size - 4, by omega⟩
    rw [open_seals s k hk]
    have hk2 : (s.size : Int) - 4 = (k : Int) := by omega
    have hx : (s.extract 0 k).size = k := by simp; omega
    have h1 := refSeal_any (s.extract 0 k) (by omega)
    generalize str (sealL (s.extract 0 k).data.toList) = B at *
    by_cases hc : B = s
    · rw [if_pos hc, show openV (some (s.extract 0 k).data.toList) = .tuple #[.string (str (s.extract 0 k).data.toList), .int .i64 0] from rfl, str_self]
      have hc1 : (B.toList == s.toList) = true := by simp [hc]
      go_enter Tryz.func46, Tryz.ntmps46
      go_wp2_with (go_at_call 62; refine (h1 _).mono ?_; rintro e w1 ⟨rfl, hb1⟩)
      go_ret2
      exact ⟨rfl, hb1⟩
    · rw [if_neg hc, show openV none = .tuple #[.string ⟨#[]⟩, .int .i64 3] from rfl]
      have hc1 := list_ne hc
      go_enter Tryz.func46, Tryz.ntmps46
      go_wp2_with (go_at_call 62; refine (h1 _).mono ?_; rintro e w1 ⟨rfl, hb1⟩)
      go_ret2
      exact ⟨rfl, hb1⟩
end Go.Proofs.YtclliljkmmpglaaGreat
