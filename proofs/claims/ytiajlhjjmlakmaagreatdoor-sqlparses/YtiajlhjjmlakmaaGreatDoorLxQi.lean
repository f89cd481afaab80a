/-
  Contracts: the reader of ints of package lex.
-/
import Derived.Test.YtiajlhjjmlakmaaGreatDoorLxQ
namespace Go.Proofs.YtiajlhjjmlakmaaGreatDoor
open Go.RowKit Num
set_option linter.unusedVariables false
set_option maxRecDepth 100000

theorem below_box0 {w w' : World} {o : Obj} (h : Below (w.alloc o).heap.size (w.alloc o) w') : Below w.heap.size w w' :=
  ((Below.refl _ _).alloc (Nat.le_refl _) o).trans (h.mono (by simp))
theorem below_two {w w1 w2 : World} {o : Obj} (h : Below (w.alloc o).heap.size (w.alloc o) w1) (h2 : Below w1.heap.size w1 w2) : Below w.heap.size w w2 :=
  (below_box0 h).trans (h2.mono (Nat.le_trans (by simp) h.size))
theorem below_three {w w1 w2 w3 : World} {o : Obj} (h : Below (w.alloc o).heap.size (w.alloc o) w1) (h2 : Below w1.heap.size w1 w2) (h3 : Below w2.heap.size w2 w3) : Below w.heap.size w w3 :=
  (below_two h h2).trans (h3.mono (Nat.le_trans (Nat.le_trans (by simp) h.size) h2.size))
theorem zbox_at {w w1 : World} (hb : Below (w.alloc zBox).heap.size (w.alloc zBox) w1) : w1.heap[w.heap.size]? = some zBox := heap_next (heap_alloc_new w zBox) hb
theorem str_inj {a b : List UInt8} (h : str a = str b) : a = b := by
  have := congrArg (fun x => x.data.toList) h
  simpa [data_str] using this
theorem readInt_any (s : ByteArray) (c : UInt8) (r : List UInt8) (hcr : s.data.toList = c :: r) (hs2 : s.size ≤ 1000000) (w : World) (hG : Glob w) :
    Calls Tryz.prog 52 #[.string s] w fun e w' => e = .returned (tkV s.data.toList (intT (c :: r.take (runL letB r)))) ∧ Below w.heap.size w w' := by
  have hl : s.data.toList.length = s.size := rfl
  have hl2 : s.size = r.length + 1 := by rw [← hl, hcr, List.length_cons]
  obtain ⟨b, hb⟩ : ∃ b, s.extract 1 s.size = b := ⟨_, rfl⟩
  have hbd : b = str r := by rw [← hb, ext_drop, hcr]; rfl
  have hr := run_let b (by rw [hbd, size_str]; omega)
  rw [hbd, data_str] at hr
  rw [← hbd] at hr
  have hn := runL_le letB r
  generalize runL letB r = n at *
  obtain ⟨y, hy⟩ : ∃ y, s.extract 0 (1 + n) = y := ⟨_, rfl⟩
  have hyd : y = str (c :: r.take n) := by rw [← hy, ext_take, hcr, Nat.add_comm, List.take_succ_cons]
  have hyl : y.data.toList = c :: r.take n := by rw [hyd, data_str]
  have hys : y.size = n + 1 := by rw [hyd, size_str, List.length_cons, List.length_take]; omega
  have hns : (1 : Int) + (n : Int) ≤ (s.size : Int) := by omega
  have hsm : (s.size : Int) ≤ 1000000 := by omega
  cases hp : Go.Lib.parseIntB 64 y.data.toList with
  | ok m =>
    have hbn := Go.Lib.parseIntB_bounds hp
    simp only [Nat.add_one_sub_one, Nat.reducePow] at hbn
    have hpa := parse_ok y m (by omega) hp
    have hfo := fun w h => format_any m (by omega) (by omega) w h
    by_cases he : Go.Lib.itoa m = c :: r.take n
    · have hres : Hid (tkV s.data.toList (intT (c :: r.take n)) = .tuple #[tokV 3 y ⟨2, m, 0, ⟨#[]⟩⟩ 0, .bool true]) := by
        unfold Hid intT
        rw [← hyl, hp, hyl]
        simp only
        rw [if_pos he]
        show Value.tuple #[tokV 3 (str (s.data.toList.take (c :: r.take n).length)) _ 0, .bool true] = _
        rw [show s.data.toList.take (c :: r.take n).length = c :: r.take n by rw [hcr, List.length_cons, List.length_take, Nat.min_eq_left hn, List.take_succ_cons], ← hyd]
      rw [he, ← hyd] at hfo
      have hv := valued_yes y ⟨2, m, 0, ⟨#[]⟩⟩ (by simp [Val.may, may, Lib.toList_data])
      unfold Val.v tokV at hv
      have e1 : (y.toList == y.toList) = true := by simp
      clear he hyd hyl hys hp hbd hl hl2 hn hbn
      go_enter Tryz.func52, Tryz.ntmps52
      go_wp2_with (first
        | (go_at_call 94; refine (hr _).mono ?_; rintro e w1 ⟨rfl, rfl⟩)
        | (go_at_call 97; refine (hpa _).mono ?_; rintro e w1 ⟨rfl, hb1⟩)
        | (go_at_call 98; refine (hfo _ ((hG.alloc _).below hb1)).mono ?_; rintro e w2 ⟨rfl, hb2⟩)
        | (go_at_call 92; refine (hv _).mono ?_; rintro e w3 ⟨rfl, hb3⟩; have hz := heap_next (heap_next (zbox_at hb1) hb2) hb3; obtain ⟨q0, q1, q2, q3, q4, q5, q6⟩ := cells7 hz; obtain ⟨z0, z1, z2, z3, z4, z5, z6⟩ := free7 hz; clear hz))
      refine bodyPost_ret (v := .tuple #[tokV 3 y ⟨2, m, 0, ⟨#[]⟩⟩ 0, .bool true]) (by simp [results, Tryz.results52, go_sem, tokV, q0, q1, q2, q3, q4, q5, q6]) rfl ⟨by rw [hres.out], ?_⟩
      exact below_set7 (below_three hb1 hb2 hb3) (Nat.le_refl _) _ _ _ _ _ _ _
    · have hres : Hid (tkV s.data.toList (intT (c :: r.take n)) = .tuple #[tokV 0 ⟨#[]⟩ noV 0, .bool false]) := by
        unfold Hid intT
        rw [← hyl, hp, hyl]
        simp only
        rw [if_neg he]
        rfl
      have e2 : ¬ (str (Go.Lib.itoa m)).toList = y.toList := by
        rw [Lib.toList_data, Lib.toList_data, data_str, hyl]
        exact he
      generalize str (Go.Lib.itoa m) = a at *
      have e1 : (a.toList == y.toList) = false := by simpa using e2
      clear he hyd hyl hys hp hbd hl hl2 hn hbn
      go_enter Tryz.func52, Tryz.ntmps52
      go_wp2_with (first
        | (go_at_call 94; refine (hr _).mono ?_; rintro e w1 ⟨rfl, rfl⟩)
        | (go_at_call 97; refine (hpa _).mono ?_; rintro e w1 ⟨rfl, hb1⟩)
        | (go_at_call 98; refine (hfo _ ((hG.alloc _).below hb1)).mono ?_; rintro e w2 ⟨rfl, hb2⟩; have hz := heap_next (zbox_at hb1) hb2; obtain ⟨q0, q1, q2, q3, q4, q5, q6⟩ := cells7 hz; obtain ⟨z0, z1, z2, z3, z4, z5, z6⟩ := free7 hz; clear hz))
      refine bodyPost_ret (v := .tuple #[tokV 0 ⟨#[]⟩ noV 0, .bool false]) (by simp [results, Tryz.results52, go_sem, tokV, noV, q0, q1, q2, q3, q4, q5, q6]) rfl ⟨by rw [hres.out], ?_⟩
      exact below_set7 (below_two hb1 hb2) (Nat.le_refl _) _ _ _ _ _ _ _
  | _ =>
    have hbad : ∀ m, Go.Lib.parseIntB 64 y.data.toList ≠ .ok m := by
      intro m e
      rw [e] at hp
      cases hp
    have hres : Hid (tkV s.data.toList (intT (c :: r.take n)) = .tuple #[tokV 0 ⟨#[]⟩ noV 0, .bool false]) := by
      unfold Hid intT
      rw [← hyl, hp]
      rfl
    have hpa := parse_bad y (by omega) hbad
    clear hbad hyd hyl hys hp hbd hl hl2 hn
    go_enter Tryz.func52, Tryz.ntmps52
    go_wp2_with (first
      | (go_at_call 94; refine (hr _).mono ?_; rintro e w1 ⟨rfl, rfl⟩)
      | (go_at_call 97; refine (hpa _ (hG.alloc _)).mono ?_; rintro e w1 ⟨nn, tt, pp, rfl, hb1⟩; have hz := zbox_at hb1; obtain ⟨q0, q1, q2, q3, q4, q5, q6⟩ := cells7 hz; obtain ⟨z0, z1, z2, z3, z4, z5, z6⟩ := free7 hz; clear hz))
    refine bodyPost_ret (v := .tuple #[tokV 0 ⟨#[]⟩ noV 0, .bool false]) (by simp [results, Tryz.results52, go_sem, tokV, noV, q0, q1, q2, q3, q4, q5, q6]) rfl ⟨by rw [hres.out], ?_⟩
    exact below_set7 (below_box0 hb1) (Nat.le_refl _) _ _ _ _ _ _ _
end Go.Proofs.YtiajlhjjmlakmaaGreatDoor
