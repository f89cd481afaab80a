import Derived.Test.YtiajlhjjmlakmaaGreatDoorLxP
import Derived.Test.YtiajlhjjmlakmaaGreatDoorLxWd
namespace Go.Proofs.YtiajlhjjmlakmaaGreatDoor
open Go.RowKit Num
set_option linter.unusedVariables false
set_option maxRecDepth 100000

def tkV (l : List UInt8) : Option Tk → Value
 | some x => .tuple #[tokV x.1 (str (l.take x.2.1)) x.2.2 0, .bool true]
 | none => .tuple #[tokV 0 ⟨#[]⟩ noV 0, .bool false]
theorem tk_open (l : List UInt8) (o : Option Tk) : ∃ k t v b, tkV l o = .tuple #[tokV k t v 0, .bool b] := by
 cases o with
 | none => exact ⟨_, _, _, _, rfl⟩
 | some x => exact ⟨_, _, _, _, rfl⟩
theorem str_of (s : ByteArray) : str s.data.toList = s := by
 unfold str
 rw [Array.toArray_toList]
theorem data_str (l : List UInt8) : (str l).data.toList = l := by simp [str]
theorem size_str (l : List UInt8) : (str l).size = l.length := rfl
theorem ext_take (s : ByteArray) (k : Nat) : s.extract 0 k = str (s.data.toList.take k) := by
 rw [← str_of (s.extract 0 k), Go.Lib.extract_data]
 simp
theorem ext_drop (s : ByteArray) (k : Nat) : s.extract k s.size = str (s.data.toList.drop k) := by
 rw [← str_of (s.extract k s.size), Go.Lib.extract_data]
 congr 1
 apply List.take_of_length_le
 have : s.data.toList.length = s.size := rfl
 simp only [List.length_drop]
 omega
theorem readDigits_yes (s : ByteArray) (hs : 2 ≤ s.size) (hs2 : s.size ≤ 1000000) (d : List UInt8) (hd : digsG (s.data.toList.drop 2) = some d) (w : World) :
  Calls Tryz.prog 90 #[.string s] w fun e w' => e = .returned (.tuple #[.string (str (s.data.toList.take (d.length + 3))), .string (str d), .bool true]) ∧ Below w.heap.size w w' := by
 have hlen := digsG_len hd
 have hl : s.data.toList.length = s.size := rfl
 simp only [List.length_drop] at hlen
 obtain ⟨b, hb⟩ : ∃ b, s.extract 2 s.size = b := ⟨_, rfl⟩
 have hbd : b = str (s.data.toList.drop 2) := by rw [← hb, ext_drop]
 have hbs : b.size = s.size - 2 := by rw [hbd, size_str, List.length_drop, hl]
 have hr := run_hex b (by omega)
 rw [hbd, data_str] at hr
 rw [← hbd] at hr
 unfold digsG at hd
 split at hd
 ·rename_i hq
  replace hd := Option.some.inj hd
  have hn := runL_le hexB (s.data.toList.drop 2)
  rw [List.length_drop, hl] at hn
  generalize runL hexB (s.data.toList.drop 2) = n at *
  have hdl : d.length = n := by rw [← hd, List.length_take, List.length_drop, hl]; omega
  obtain ⟨c, hc⟩ : ∃ c, b.extract n b.size = c := ⟨_, rfl⟩
  have hcd : c = str (s.data.toList.drop 2 |>.drop n) := by rw [← hc, ext_drop, hbd, data_str]
  have hcs : c.size ≤ 1000000 := by
   rw [hcd, size_str, List.length_drop, List.length_drop]
   omega
  have hqq := quoted_any c hcs
  rw [hcd, data_str, decide_eq_true hq, ← hcd] at hqq
  have h1 : b.extract 0 n = str d := by rw [ext_take, hbd, data_str, hd]
  have h2 : s.extract 0 (2 + n + 1) = str (s.data.toList.take (d.length + 3)) := by rw [ext_take, hdl]; congr 2; omega
  have hbs2 : Hid (b.size = s.size - 2) := hbs
  have hnb : (n : Int) ≤ (b.size : Int) := by omega
  have hbm : (b.size : Int) ≤ 1000000 := by omega
  have hns : (2 : Int) + (n : Int) + 1 ≤ (s.size : Int) := by omega
  clear hq hd hcd hbd hcs hdl hn hbs hlen hl
  go_enter Tryz.func90, Tryz.ntmps90
  go_wp2_with (first
   | (go_at_call 94; refine (hr _).mono ?_; rintro e w1 ⟨rfl, rfl⟩)
   | (go_at_call 46; refine (hqq _).mono ?_; rintro e w2 ⟨rfl, rfl⟩))
  go_region
  go_wp2
  refine bodyPost_ret (v := .tuple #[.string (str (s.data.toList.take (d.length + 3))), .string (str d), .bool true]) (by simp [results, Tryz.results90, go_sem, h2]) rfl ⟨rfl, rfl, rfl, rfl, Nat.le_refl _, fun _ _ => rfl⟩
 ·cases hd
theorem readDigits_no (s : ByteArray) (hs : 2 ≤ s.size) (hs2 : s.size ≤ 1000000) (hd : digsG (s.data.toList.drop 2) = none) (w : World) :
  Calls Tryz.prog 90 #[.string s] w fun e w' => e = .returned (.tuple #[.string ⟨#[]⟩, .string ⟨#[]⟩, .bool false]) ∧ Below w.heap.size w w' := by
 have hl : s.data.toList.length = s.size := rfl
 obtain ⟨b, hb⟩ : ∃ b, s.extract 2 s.size = b := ⟨_, rfl⟩
 have hbd : b = str (s.data.toList.drop 2) := by rw [← hb, ext_drop]
 have hbs : b.size = s.size - 2 := by rw [hbd, size_str, List.length_drop, hl]
 have hr := run_hex b (by omega)
 rw [hbd, data_str] at hr
 rw [← hbd] at hr
 unfold digsG at hd
 split at hd
 ·cases hd
 ·rename_i hq
  have hn := runL_le hexB (s.data.toList.drop 2)
  rw [List.length_drop, hl] at hn
  generalize runL hexB (s.data.toList.drop 2) = n at *
  obtain ⟨c, hc⟩ : ∃ c, b.extract n b.size = c := ⟨_, rfl⟩
  have hcd : c = str (s.data.toList.drop 2 |>.drop n) := by rw [← hc, ext_drop, hbd, data_str]
  have hcs : c.size ≤ 1000000 := by
   rw [hcd, size_str, List.length_drop, List.length_drop]
   omega
  have hqq := quoted_any c hcs
  rw [hcd, data_str, decide_eq_false hq, ← hcd] at hqq
  have hnb : (n : Int) ≤ (b.size : Int) := by omega
  have hbm : (b.size : Int) ≤ 1000000 := by omega
  clear hq hd hcd hbd hcs hn hbs hl
  go_enter Tryz.func90, Tryz.ntmps90
  go_wp2_with (first
   | (go_at_call 94; refine (hr _).mono ?_; rintro e w1 ⟨rfl, rfl⟩)
   | (go_at_call 46; refine (hqq _).mono ?_; rintro e w2 ⟨rfl, rfl⟩))
  refine bodyPost_ret (v := .tuple #[.string ⟨#[]⟩, .string ⟨#[]⟩, .bool false]) (by simp [results, Tryz.results90, go_sem]) rfl ⟨rfl, Below.refl _ _⟩
theorem readName_any (s : ByteArray) (hs2 : s.size ≤ 1000000) (w : World) :
  Calls Tryz.prog 50 #[.string s] w fun e w' => e = .returned (tkV s.data.toList (nameT s.data.toList)) ∧ Below w.heap.size w w' := by
 have hl : s.data.toList.length = s.size := rfl
 have hr := run_let s hs2
 have hn := runL_le letB s.data.toList
 have hsh : ∀ x : List UInt8, words.contains x = true → x.length ≤ 16 := by
  intro x hx
  have : words.all (fun x => decide (x.length ≤ 16)) = true := by decide
  simpa using List.all_eq_true.1 this x (by simpa using hx)
 have hw := word_any (str (s.data.toList.take (runL letB s.data.toList)))
 rw [Lib.toList_data, data_str] at hw
 have hsh := hsh (s.data.toList.take (runL letB s.data.toList))
 rw [List.length_take, Nat.min_eq_left hn] at hsh
 have he := ext_take s (runL letB s.data.toList)
 have hsz : (str (s.data.toList.take (runL letB s.data.toList))).size = runL letB s.data.toList := by rw [size_str, List.length_take, Nat.min_eq_left hn]
 have hres : nameT s.data.toList = if runL letB s.data.toList ≤ 16 then some (if words.contains (s.data.toList.take (runL letB s.data.toList)) = true then 1 else 2, runL letB s.data.toList, noV) else none := rfl
 have hns : (runL letB s.data.toList : Int) ≤ (s.size : Int) := by omega
 generalize nameT s.data.toList = o at *
 have htk : Hid (∀ x, tkV s.data.toList (some (x, runL letB s.data.toList, noV)) = .tuple #[tokV x (str (s.data.toList.take (runL letB s.data.toList))) noV 0, .bool true]) := fun x => rfl
 generalize runL letB s.data.toList = n at *
 generalize hy : str (s.data.toList.take n) = y at *
 generalize words.contains (s.data.toList.take n) = q at *
 generalize s.data.toList = l at *
 clear hy hl hn
 cases q with
 | true =>
  have hn := hsh rfl
  rw [if_pos hn, if_pos rfl] at hres
  have hres2 : Hid (o = some (1, n, noV)) := hres
  clear hres hsh
  go_enter Tryz.func50, Tryz.ntmps50
  go_wp2_with (first
   | (go_at_call 94; refine (hr _).mono ?_; rintro e w1 ⟨rfl, rfl⟩)
   | (go_at_call 96; refine (hw _).mono ?_; rintro e w2 ⟨rfl, rfl⟩))
  refine bodyPost_ret (v := .tuple #[tokV 1 y noV 0, .bool true]) (by simp [results, Tryz.results50, go_sem, tokV, noV]) rfl ⟨by rw [hres2.out, htk.out], (Below.refl _ _).alloc (Nat.le_refl _) _⟩
 | false =>
  clear hsh
  by_cases hn : n ≤ 16
  ·have hn2 : (n : Int) ≤ 16 := by omega
   have hy2 : (y.size : Int) ≤ 16 := by omega
   rw [if_pos hn] at hres
   have hres2 : Hid (o = some (2, n, noV)) := hres
   clear hres hsz
   go_enter Tryz.func50, Tryz.ntmps50
   go_wp2_with (first
    | (go_at_call 94; refine (hr _).mono ?_; rintro e w1 ⟨rfl, rfl⟩)
    | (go_at_call 96; refine (hw _).mono ?_; rintro e w2 ⟨rfl, rfl⟩))
   refine bodyPost_ret (v := .tuple #[tokV 2 y noV 0, .bool true]) (by simp [results, Tryz.results50, go_sem, tokV, noV]) rfl ⟨by rw [hres2.out, htk.out], (Below.refl _ _).alloc (Nat.le_refl _) _⟩
  ·have hy2 : ¬ (y.size : Int) ≤ 16 := by omega
   rw [if_neg hn] at hres
   have hres2 : Hid (o = none) := hres
   clear hres hsz hn
   go_enter Tryz.func50, Tryz.ntmps50
   go_wp2_with (first
    | (go_at_call 94; refine (hr _).mono ?_; rintro e w1 ⟨rfl, rfl⟩)
    | (go_at_call 96; refine (hw _).mono ?_; rintro e w2 ⟨rfl, rfl⟩))
   refine bodyPost_ret (v := .tuple #[tokV 0 ⟨#[]⟩ noV 0, .bool false]) (by simp [results, Tryz.results50, go_sem, tokV, noV]) rfl ⟨by rw [hres2.out]; rfl, (Below.refl _ _).alloc (Nat.le_refl _) _⟩

theorem below_box0 {w w' : World} {o : Obj} (h : Below (w.alloc o).heap.size (w.alloc o) w') : Below w.heap.size w w' :=
 ((Below.refl _ _).alloc (Nat.le_refl _) o).trans (h.mono (by simp))
theorem below_two {w w1 w2 : World} {o : Obj} (h : Below (w.alloc o).heap.size (w.alloc o) w1) (h2 : Below w1.heap.size w1 w2) : Below w.heap.size w w2 :=
 (below_box0 h).trans (h2.mono (Nat.le_trans (by simp) h.size))
theorem below_three {w w1 w2 w3 : World} {o : Obj} (h : Below (w.alloc o).heap.size (w.alloc o) w1) (h2 : Below w1.heap.size w1 w2) (h3 : Below w2.heap.size w2 w3) : Below w.heap.size w w3 :=
 (below_two h h2).trans (h3.mono (Nat.le_trans (Nat.le_trans (by simp) h.size) h2.size))
theorem zbox_at {w w1 : World} (hb : Below (w.alloc zBox).heap.size (w.alloc zBox) w1) : w1.heap[w.heap.size]? = some zBox := heap_next (heap_alloc_new w zBox) hb
theorem readInt_any (s : ByteArray) (c : UInt8) (r : List UInt8) (hcr : s.data.toList = c :: r) (hs2 : s.size ≤ 1000000) (w : World) (hG : Glob w) :
  Calls Tryz.prog 52 #[.string s] w fun e w' => e = .returned (tkV s.data.toList (intT (c :: r.take (runL letB r)))) ∧ Below w.heap.size w w' := by
 have hl : s.data.toList.length = s.size := rfl
 have hl2 : s.size = r.length + 1 := by rw [← hl, hcr, List.length_cons]
 obtain ⟨b, hb⟩ : ∃ b, s.extract 1 s.size = b := ⟨_, rfl⟩
 have hbd : b = str r := by rw [← hb, ext_drop, hcr]; rfl
 have hr := run_let b (by rw [hbd, size_str]; omega)
 rw [hbd, data_str] at hr
 rw [← hbd] at hr
 have hn := runL_le letB r
 generalize runL letB r = n at *
 obtain ⟨y, hy⟩ : ∃ y, s.extract 0 (1 + n) = y := ⟨_, rfl⟩
 have hyd : y = str (c :: r.take n) := by rw [← hy, ext_take, hcr, Nat.add_comm, List.take_succ_cons]
 have hyl : y.data.toList = c :: r.take n := by rw [hyd, data_str]
 have hys : y.size = n + 1 := by rw [hyd, size_str, List.length_cons, List.length_take]; omega
 have hns : (1 : Int) + (n : Int) ≤ (s.size : Int) := by omega
 have hsm : (s.size : Int) ≤ 1000000 := by omega
 cases hp : Go.Lib.parseIntB 64 y.data.toList with
 | ok m =>
  have hbn := Go.Lib.parseIntB_bounds hp
  simp only [Nat.add_one_sub_one, Nat.reducePow] at hbn
  have hpa := parse_ok y m (by omega) hp
  have hfo := fun w h => format_any m (by omega) (by omega) w h
  by_cases he : Go.Lib.itoa m = c :: r.take n
  ·have hres : Hid (tkV s.data.toList (intT (c :: r.take n)) = .tuple #[tokV 3 y ⟨2, m, 0, ⟨#[]⟩⟩ 0, .bool true]) := by
    unfold Hid intT
    rw [← hyl, hp, hyl]
    simp only
    rw [if_pos he]
    show Value.tuple #[tokV 3 (str (s.data.toList.take (c :: r.take n).length)) _ 0, .bool true] = _
    rw [show s.data.toList.take (c :: r.take n).length = c :: r.take n by rw [hcr, List.length_cons, List.length_take, Nat.min_eq_left hn, List.take_succ_cons], ← hyd]
   rw [he, ← hyd] at hfo
   have hv := valued_yes y ⟨2, m, 0, ⟨#[]⟩⟩ (by simp [Val.may, may, Lib.toList_data])
   unfold Val.v tokV at hv
   have e1 : (y.toList == y.toList) = true := by simp
   clear he hyd hyl hys hp hbd hl hl2 hn hbn
   go_enter Tryz.func52, Tryz.ntmps52
   go_wp2_with (first
    | (go_at_call 94; refine (hr _).mono ?_; rintro e w1 ⟨rfl, rfl⟩)
    | (go_at_call 97; refine (hpa _).mono ?_; rintro e w1 ⟨rfl, hb1⟩)
    | (go_at_call 98; refine (hfo _ ((hG.alloc _).below hb1)).mono ?_; rintro e w2 ⟨rfl, hb2⟩)
    | (go_at_call 92; refine (hv _).mono ?_; rintro e w3 ⟨rfl, hb3⟩; have hz := heap_next (heap_next (zbox_at hb1) hb2) hb3; obtain ⟨q0, q1, q2, q3, q4, q5, q6⟩ := cells7 hz; obtain ⟨z0, z1, z2, z3, z4, z5, z6⟩ := free7 hz; clear hz))
   refine bodyPost_ret (v := .tuple #[tokV 3 y ⟨2, m, 0, ⟨#[]⟩⟩ 0, .bool true]) (by simp [results, Tryz.results52, go_sem, tokV, q0, q1, q2, q3, q4, q5, q6]) rfl ⟨by rw [hres.out], ?_⟩
   exact below_set7 (below_three hb1 hb2 hb3) (Nat.le_refl _) _ _ _ _ _ _ _
  ·have hres : Hid (tkV s.data.toList (intT (c :: r.take n)) = .tuple #[tokV 0 ⟨#[]⟩ noV 0, .bool false]) := by
    unfold Hid intT
    rw [← hyl, hp, hyl]
    simp only
    rw [if_neg he]
    rfl
   have e2 : ¬ (str (Go.Lib.itoa m)).toList = y.toList := by
    rw [Lib.toList_data, Lib.toList_data, data_str, hyl]
    exact he
   generalize str (Go.Lib.itoa m) = a at *
   have e1 : (a.toList == y.toList) = false := by simpa using e2
   clear he hyd hyl hys hp hbd hl hl2 hn hbn
   go_enter Tryz.func52, Tryz.ntmps52
   go_wp2_with (first
    | (go_at_call 94; refine (hr _).mono ?_; rintro e w1 ⟨rfl, rfl⟩)
    | (go_at_call 97; refine (hpa _).mono ?_; rintro e w1 ⟨rfl, hb1⟩)
    | (go_at_call 98; refine (hfo _ ((hG.alloc _).below hb1)).mono ?_; rintro e w2 ⟨rfl, hb2⟩; have hz := heap_next (zbox_at hb1) hb2; obtain ⟨q0, q1, q2, q3, q4, q5, q6⟩ := cells7 hz; obtain ⟨z0, z1, z2, z3, z4, z5, z6⟩ := free7 hz; clear hz))
   refine bodyPost_ret (v := .tuple #[tokV 0 ⟨#[]⟩ noV 0, .bool false]) (by simp [results, Tryz.results52, go_sem, tokV, noV, q0, q1, q2, q3, q4, q5, q6]) rfl ⟨by rw [hres.out], ?_⟩
   exact below_set7 (below_two hb1 hb2) (Nat.le_refl _) _ _ _ _ _ _ _
 | _ =>
  have hbad : ∀ m, Go.Lib.parseIntB 64 y.data.toList ≠ .ok m := by
   intro m e
   rw [e] at hp
   cases hp
  have hres : Hid (tkV s.data.toList (intT (c :: r.take n)) = .tuple #[tokV 0 ⟨#[]⟩ noV 0, .bool false]) := by
   unfold Hid intT
   rw [← hyl, hp]
   rfl
  have hpa := parse_bad y (by omega) hbad
  clear hbad hyd hyl hys hp hbd hl hl2 hn
  go_enter Tryz.func52, Tryz.ntmps52
  go_wp2_with (first
   | (go_at_call 94; refine (hr _).mono ?_; rintro e w1 ⟨rfl, rfl⟩)
   | (go_at_call 97; refine (hpa _ (hG.alloc _)).mono ?_; rintro e w1 ⟨nn, tt, pp, rfl, hb1⟩; have hz := zbox_at hb1; obtain ⟨q0, q1, q2, q3, q4, q5, q6⟩ := cells7 hz; obtain ⟨z0, z1, z2, z3, z4, z5, z6⟩ := free7 hz; clear hz))
  refine bodyPost_ret (v := .tuple #[tokV 0 ⟨#[]⟩ noV 0, .bool false]) (by simp [results, Tryz.results52, go_sem, tokV, noV, q0, q1, q2, q3, q4, q5, q6]) rfl ⟨by rw [hres.out], ?_⟩
  exact below_set7 (below_box0 hb1) (Nat.le_refl _) _ _ _ _ _ _ _

theorem digsG_hex {r d : List UInt8} (h : digsG r = some d) : ∀ c ∈ d, hexB c = true := by
 unfold digsG at h
 split at h
 ·have h := Option.some.inj h
  subst h
  intro c hc
  obtain ⟨j, hj, rfl⟩ := List.mem_iff_getElem.1 hc
  rw [List.length_take] at hj
  rw [List.getElem_take]
  exact runL_in hexB r j (by omega) (by omega)
 ·cases h
theorem readFloat_any (s : ByteArray) (hs : 2 ≤ s.size) (hs2 : s.size ≤ 1000000) (w : World) :
  Calls Tryz.prog 48 #[.string s] w fun e w' => e = .returned (tkV s.data.toList (floatT (s.data.toList.drop 2))) ∧ Below w.heap.size w w' := by
 cases hd : digsG (s.data.toList.drop 2) with
 | none =>
  have hres : Hid (tkV s.data.toList (floatT (s.data.toList.drop 2)) = .tuple #[tokV 0 ⟨#[]⟩ noV 0, .bool false]) := by
   unfold Hid floatT
   rw [hd]
   rfl
  have hr := readDigits_no s hs hs2 hd
  clear hd
  go_enter Tryz.func48, Tryz.ntmps48
  go_wp2_with (first
   | (go_at_call 90; refine (hr _).mono ?_; rintro e w1 ⟨rfl, hb1⟩; have hz := zbox_at hb1; obtain ⟨q0, q1, q2, q3, q4, q5, q6⟩ := cells7 hz; obtain ⟨z0, z1, z2, z3, z4, z5, z6⟩ := free7 hz; clear hz))
  refine bodyPost_ret (v := .tuple #[tokV 0 ⟨#[]⟩ noV 0, .bool false]) (by simp [results, Tryz.results48, go_sem, tokV, noV, q0, q1, q2, q3, q4, q5, q6]) rfl ⟨by rw [hres.out], ?_⟩
  exact below_set7 (below_box0 hb1) (Nat.le_refl _) _ _ _ _ _ _ _
 | some d =>
  have hr := readDigits_yes s hs hs2 d hd
  have hlen := digsG_len hd
  have hl : s.data.toList.length = s.size := rfl
  simp only [List.length_drop] at hlen
  obtain ⟨x, hx⟩ : ∃ x, str d = x := ⟨_, rfl⟩
  have hxs : x.size = d.length := by rw [← hx, size_str]
  rw [hx] at hr
  by_cases h16 : d.length = 16
  ·obtain ⟨t, ht⟩ : ∃ t, str (s.data.toList.take 19) = t := ⟨_, rfl⟩
   rw [h16, ht] at hr
   have hxi : (x.size : Int) = 16 := by omega
   have hn := number_any x (by omega) (by rw [← hx, data_str]; exact digsG_hex hd)
   rw [← hx, data_str, hx] at hn
   have hca := canon_any (hexNum d)
   have hv := valued_yes t ⟨3, 0, canon (hexNum d), ⟨#[]⟩⟩ (by simp [Val.may, may, Lib.toList_data, canon_canon])
   have hres : Hid (tkV s.data.toList (floatT (s.data.toList.drop 2)) = .tuple #[tokV 3 t ⟨3, 0, canon (hexNum d), ⟨#[]⟩⟩ 0, .bool true]) := by
    unfold Hid floatT
    rw [hd]
    simp only
    rw [if_pos h16]
    show Value.tuple #[tokV 3 (str (s.data.toList.take 19)) _ 0, .bool true] = _
    rw [ht]
   unfold Val.v tokV at hv
   generalize canon (hexNum d) = F at *
   generalize hexNum d = N at *
   clear hd hlen hl hx hxs h16 ht
   go_enter Tryz.func48, Tryz.ntmps48
   go_wp2_with (first
    | (go_at_call 90; refine (hr _).mono ?_; rintro e w1 ⟨rfl, hb1⟩)
    | (go_at_call 91; refine (hn _).mono ?_; rintro e w2 ⟨rfl, rfl⟩)
    | (go_at_call 93; refine (hca _).mono ?_; rintro e w2 ⟨rfl, rfl⟩)
    | (go_at_call 92; refine (hv _).mono ?_; rintro e w3 ⟨rfl, hb3⟩; have hz := heap_next (zbox_at hb1) hb3; obtain ⟨q0, q1, q2, q3, q4, q5, q6⟩ := cells7 hz; obtain ⟨z0, z1, z2, z3, z4, z5, z6⟩ := free7 hz; clear hz))
   refine bodyPost_ret (v := .tuple #[tokV 3 t ⟨3, 0, F, ⟨#[]⟩⟩ 0, .bool true]) (by simp [results, Tryz.results48, go_sem, tokV, q0, q1, q2, q3, q4, q5, q6]) rfl ⟨by rw [hres.out], ?_⟩
   exact below_set7 (below_two hb1 hb3) (Nat.le_refl _) _ _ _ _ _ _ _
  ·have hres : Hid (tkV s.data.toList (floatT (s.data.toList.drop 2)) = .tuple #[tokV 0 ⟨#[]⟩ noV 0, .bool false]) := by
    unfold Hid floatT
    rw [hd]
    simp only
    rw [if_neg h16]
    rfl
   have hxi : ¬ (x.size : Int) = 16 := by omega
   have hxi2 : ((x.size : Int) == 16) = false := by simpa using hxi
   obtain ⟨t, ht⟩ : ∃ t, str (s.data.toList.take (d.length + 3)) = t := ⟨_, rfl⟩
   rw [ht] at hr
   clear hd hlen hl hx hxs h16 ht
   go_enter Tryz.func48, Tryz.ntmps48
   go_wp2_with (first
    | (go_at_call 90; refine (hr _).mono ?_; rintro e w1 ⟨rfl, hb1⟩; have hz := zbox_at hb1; obtain ⟨q0, q1, q2, q3, q4, q5, q6⟩ := cells7 hz; obtain ⟨z0, z1, z2, z3, z4, z5, z6⟩ := free7 hz; clear hz))
   refine bodyPost_ret (v := .tuple #[tokV 0 ⟨#[]⟩ noV 0, .bool false]) (by simp [results, Tryz.results48, go_sem, tokV, noV, q0, q1, q2, q3, q4, q5, q6]) rfl ⟨by rw [hres.out], ?_⟩
   exact below_set7 (below_box0 hb1) (Nat.le_refl _) _ _ _ _ _ _ _

theorem below_up {w w' w'' : World} {o : Obj} (h : Below (w.alloc o).heap.size (w.alloc o) w') {x : Obj} (h2 : Below (w.heap.size + 1) (w'.alloc x) w'') : Below (w.alloc o).heap.size (w.alloc o) w'' :=
 (h.alloc h.size x).trans (by simpa using h2)
theorem pairsL_next : ∀ (k : Nat) (d : List UInt8) (h : 2 * k + 1 < d.length), pairsL (d.take (2 * (k + 1))) = pairsL (d.take (2 * k)) ++ [UInt8.ofNat (nib d[2 * k] * 16 + nib d[2 * k + 1])]
 | 0, d, h => by
  match d, h with
  | a :: b :: r, _ => rfl
 | k + 1, d, h => by
  match d, h with
  | a :: b :: r, h =>
   simp only [List.length_cons] at h
   have ih := pairsL_next k r (by omega)
   show UInt8.ofNat (nib a * 16 + nib b) :: pairsL (r.take (2 * (k + 1))) = (UInt8.ofNat (nib a * 16 + nib b) :: pairsL (r.take (2 * k))) ++ _
   rw [ih]
   rfl
theorem pairsL_len : ∀ (k : Nat) (d : List UInt8), 2 * k ≤ d.length → (pairsL (d.take (2 * k))).length = k
 | 0, d, h => by simp [pairsL]
 | k + 1, d, h => by
  rw [pairsL_next k d (by omega), List.length_append, pairsL_len k d (by omega)]
  rfl
theorem pair_at (x : ByteArray) (d : List UInt8) (hx : x = str d) (k : Nat) (h : 2 * k + 1 < d.length) : (x.extract (2 * k) (2 * k + 2)).data.toList = [d[2 * k], d[2 * k + 1]] := by
 subst hx
 rw [Go.Lib.extract_data, data_str]
 rw [show 2 * k + 2 - 2 * k = 2 by omega, List.drop_eq_getElem_cons (by omega), List.drop_eq_getElem_cons (by omega)]
 rfl
set_option maxHeartbeats 1000000 in
theorem readBytes_any (s : ByteArray) (hs : 2 ≤ s.size) (hs2 : s.size ≤ 100000) (w : World) :
  Calls Tryz.prog 47 #[.string s] w fun e w' => e = .returned (tkV s.data.toList (bytesT (s.data.toList.drop 2))) ∧ Below w.heap.size w w' := by
 cases hd : digsG (s.data.toList.drop 2) with
 | none =>
  have hres : Hid (tkV s.data.toList (bytesT (s.data.toList.drop 2)) = .tuple #[tokV 0 ⟨#[]⟩ noV 0, .bool false]) := by
   unfold Hid bytesT
   rw [hd]
   rfl
  have hr := readDigits_no s hs (by omega) hd
  clear hd
  go_enter Tryz.func47, Tryz.ntmps47
  go_wp2_with (first
   | (go_at_call 90; refine (hr _).mono ?_; rintro e w1 ⟨rfl, hb1⟩; have hz := zbox_at hb1; obtain ⟨q0, q1, q2, q3, q4, q5, q6⟩ := cells7 hz; obtain ⟨z0, z1, z2, z3, z4, z5, z6⟩ := free7 hz; clear hz))
  refine bodyPost_ret (v := .tuple #[tokV 0 ⟨#[]⟩ noV 0, .bool false]) (by simp [results, Tryz.results47, go_sem, tokV, noV, q0, q1, q2, q3, q4, q5, q6]) rfl ⟨by rw [hres.out], ?_⟩
  exact below_set7 (below_box0 hb1) (Nat.le_refl _) _ _ _ _ _ _ _
 | some d =>
  have hr := readDigits_yes s hs (by omega) d hd
  have hlen := digsG_len hd
  have hl : s.data.toList.length = s.size := rfl
  simp only [List.length_drop] at hlen
  obtain ⟨x, hx⟩ : ∃ x, str d = x := ⟨_, rfl⟩
  have hxs : x.size = d.length := by rw [← hx, size_str]
  rw [hx] at hr
  obtain ⟨t, ht⟩ : ∃ t, str (s.data.toList.take (d.length + 3)) = t := ⟨_, rfl⟩
  rw [ht] at hr
  by_cases h2 : d.length % 2 = 0
  ·obtain ⟨h, hh⟩ : ∃ h, d.length = 2 * h := ⟨d.length / 2, by omega⟩
   have hxi : (x.size : Int) % 2 = 0 := by omega
   have hxd : (x.size : Int) / 2 = (h : Int) := by omega
   have hxm : (x.size : Int) ≤ 100000 := by omega
   have hhm : h ≤ 50000 := by omega
   have hn0 : ∀ k, k < h → ∀ p : ByteArray, x.extract (2 * k) (2 * k + 2) = p → ∃ N B, N < 256 ∧ B = UInt8.ofNat N ∧ pairsL (d.take (2 * (k + 1))) = pairsL (d.take (2 * k)) ++ [B] ∧ ∀ w, Calls Tryz.prog 91 #[.string p] w fun e w' => e = .returned (.int .u64 ((N : Nat) : Int)) ∧ w' = w := by
    intro k hk p hp
    have hd2 := pair_at x d hx.symm k (by omega)
    rw [hp] at hd2
    have hall := digsG_hex hd
    have ha := nib_lt (hall d[2 * k] (List.getElem_mem _))
    have hb := nib_lt (hall d[2 * k + 1] (List.getElem_mem _))
    refine ⟨nib d[2 * k] * 16 + nib d[2 * k + 1], _, by omega, rfl, pairsL_next k d (by omega), ?_⟩
    have hps : p.size = 2 := by
     have := congrArg List.length hd2
     exact this
    have hnn := number_any p (by omega) (by
     rw [hd2]
     intro c hc
     simp only [List.mem_cons, List.not_mem_nil, or_false] at hc
     rcases hc with rfl | rfl
     ·exact hall _ (List.getElem_mem _)
     ·exact hall _ (List.getElem_mem _))
    rw [hd2] at hnn
    have e : hexNum [d[2 * k], d[2 * k + 1]] = nib d[2 * k] * 16 + nib d[2 * k + 1] := by simp [hexNum]
    rw [e] at hnn
    exact hnn
   have hn : Hid (∀ k, k < h → ∀ p : ByteArray, x.extract (2 * k) (2 * k + 2) = p → ∃ N B, N < 256 ∧ B = UInt8.ofNat N ∧ pairsL (d.take (2 * (k + 1))) = pairsL (d.take (2 * k)) ++ [B] ∧ ∀ w, Calls Tryz.prog 91 #[.string p] w fun e w' => e = .returned (.int .u64 ((N : Nat) : Int)) ∧ w' = w) := hn0
   clear hn0
   have hfull : Hid (d.take (2 * h) = d ∧ (pairsL d).length = h) := by
    have e : d.take (2 * h) = d := List.take_of_length_le (by omega)
    exact ⟨e, by rw [← pairsL_len h d (by omega), e]⟩
   have hres : Hid (tkV s.data.toList (bytesT (s.data.toList.drop 2)) = if h ≤ 40 then .tuple #[tokV 3 t ⟨4, 0, 0, str (pairsL d)⟩ 0, .bool true] else .tuple #[tokV 0 ⟨#[]⟩ noV 0, .bool false]) := by
    unfold Hid bytesT
    rw [hd]
    simp only
    by_cases h40 : h ≤ 40
    ·rw [if_pos ⟨h2, by omega⟩, if_pos h40]
     show Value.tuple #[tokV 3 (str (s.data.toList.take (d.length + 3))) _ 0, .bool true] = _
     rw [ht]
    ·rw [if_neg (by omega), if_neg h40]
     rfl
   clear hd hlen hl hx hxs h2 ht hh
   have hxe : ((x.size : Int) % 2 == 0) = true := by simpa using hxi
   obtain ⟨i0, hi, hz0, hz1, hz2⟩ := info_parts Tryz.infoU8
   go_enter Tryz.func47, Tryz.ntmps47
   go_wp2_with (first
    | (go_at_call 90; refine (hr _).mono ?_; rintro e w1 ⟨rfl, hb1⟩)
    | (at_make; refine wpList_make_own _ rfl _ _ 110 rfl (w.heap.size + 1) 5 i0 (.int .u8 0) 1 Tryz.underlying110 hi hz0 hz1 _ _ _ h rfl rfl (by omega) (by rw [hz2]; omega) (by unfold maxLen; omega) (by have := hb1.size; simp at this; omega) ?_; intro w2 hown2 hgrow2))
   have hb2 : Below (w.alloc zBox).heap.size (w.alloc zBox) w2 := hb1.grown hgrow2 hb1.size (by simp)
   clear hgrow2 hb1 hr
   go_loopw [7, 8, 31] (fun v _ i wr => ∃ k : Nat, k ≤ h ∧ i = .int .i64 (k : Int) ∧ wr.ownsRow (w.heap.size + 1) 5 1 v k (cellsOf (pairsL (d.take (2 * k)))) ∧ Below (w.alloc zBox).heap.size (w.alloc zBox) wr) (fun _ _ i _ => h - (intOf i).toNat)
   case atStart => exact ⟨0, by omega, rfl, hown2, hb2⟩
   case round =>
    obtain ⟨k, hk, rfl, hown, hbel⟩ := hrel
    clear hown2 hb2
    have hsz : w.heap.size + 1 ≤ wr.heap.size := by have := hbel.size; simpa using this
    by_cases hkh : k < h
    ·obtain ⟨p, hp⟩ : ∃ p, x.extract (2 * k) (2 * k + 2) = p := ⟨_, rfl⟩
     obtain ⟨N, B, hN, hB, hnx, hnum⟩ := hn.out k hkh p hp
     have hBn : (N : Int) = ((B.toNat : Nat) : Int) := by
      rw [hB]
      rw [ofNat_toNat hN]
     have hnx : Hid (pairsL (d.take (2 * (k + 1))) = pairsL (d.take (2 * k)) ++ [B]) := hnx
     have hks : (2 : Int) * (k : Int) + 2 ≤ (x.size : Int) := by omega
     clear hB
     go_wp2_with (first
      | (go_at_call 91; refine (hnum _).mono ?_; rintro e w3 ⟨rfl, rfl⟩)
      | (at_builtin; refine wpList_app _ rfl _ _ rfl (w.heap.size + 1) _ k _ rfl (World.ownsRow.alloc hown _) _ _ _ [B] rfl rfl (one_new _ _ _ _ rfl) (by omega) (by simp; omega) ?_; intro v4 w4 hown4 hbel4))
     rw [← hnx.out] at hown4
     go_roundw
     case rel => exact ⟨k + 1, by omega, by go_num, hown4, below_up hbel hbel4⟩
     case measure => simp [intOf]; omega
    ·obtain rfl : k = h := by omega
     rw [hfull.out.1] at hown
     have hconv := conv_own _ _ _ _ _ hown
     have hdl := hfull.out.2
     generalize pairsL d = P at *
     by_cases h40 : k ≤ 40
     ·have hres2 : Hid (tkV s.data.toList (bytesT (s.data.toList.drop 2)) = .tuple #[tokV 3 t ⟨4, 0, 0, str P⟩ 0, .bool true]) := by
       unfold Hid
       rw [hres.out, if_pos h40]
      have hv := valued_yes t ⟨4, 0, 0, str P⟩ (by simp [Val.may, may, size_str, hdl]; omega)
      unfold Val.v tokV at hv
      clear hres hn hfull hdl
      go_wp2_with (first
       | (go_at_call 92; refine (hv _).mono ?_; rintro e w3 ⟨rfl, hb3⟩; have hz := heap_next (zbox_at hbel) hb3; obtain ⟨q0, q1, q2, q3, q4, q5, q6⟩ := cells7 hz; obtain ⟨z0, z1, z2, z3, z4, z5, z6⟩ := free7 hz; clear hz))
      refine bodyPost_ret (v := .tuple #[tokV 3 t ⟨4, 0, 0, str P⟩ 0, .bool true]) (by simp [results, Tryz.results47, go_sem, tokV, q0, q1, q2, q3, q4, q5, q6]) rfl ⟨by rw [hres2.out], ?_⟩
      exact below_set7 (below_two hbel hb3) (Nat.le_refl _) _ _ _ _ _ _ _
     ·have hres2 : Hid (tkV s.data.toList (bytesT (s.data.toList.drop 2)) = .tuple #[tokV 0 ⟨#[]⟩ noV 0, .bool false]) := by
       unfold Hid
       rw [hres.out, if_neg h40]
      have hv := valued_no t ⟨4, 0, 0, str P⟩ (by simp [Val.may, may, size_str, hdl]; omega)
      unfold Val.v tokV noV at hv
      clear hres hn hfull hdl
      go_wp2_with (first
       | (go_at_call 92; refine (hv _).mono ?_; rintro e w3 ⟨rfl, hb3⟩; have hz := heap_next (zbox_at hbel) hb3; obtain ⟨q0, q1, q2, q3, q4, q5, q6⟩ := cells7 hz; obtain ⟨z0, z1, z2, z3, z4, z5, z6⟩ := free7 hz; clear hz))
      refine bodyPost_ret (v := .tuple #[tokV 0 ⟨#[]⟩ noV 0, .bool false]) (by simp [results, Tryz.results47, go_sem, tokV, noV, q0, q1, q2, q3, q4, q5, q6]) rfl ⟨by rw [hres2.out], ?_⟩
      exact below_set7 (below_two hbel hb3) (Nat.le_refl _) _ _ _ _ _ _ _
  ·have hres : Hid (tkV s.data.toList (bytesT (s.data.toList.drop 2)) = .tuple #[tokV 0 ⟨#[]⟩ noV 0, .bool false]) := by
    unfold Hid bytesT
    rw [hd]
    simp only
    rw [if_neg (by omega)]
    rfl
   have hxi : ¬ (x.size : Int) % 2 = 0 := by omega
   have hxi2 : ((x.size : Int) % 2 == 0) = false := by simpa using hxi
   clear hd hlen hl hx hxs h2 ht
   go_enter Tryz.func47, Tryz.ntmps47
   go_wp2_with (first
    | (go_at_call 90; refine (hr _).mono ?_; rintro e w1 ⟨rfl, hb1⟩; have hz := zbox_at hb1; obtain ⟨q0, q1, q2, q3, q4, q5, q6⟩ := cells7 hz; obtain ⟨z0, z1, z2, z3, z4, z5, z6⟩ := free7 hz; clear hz))
   refine bodyPost_ret (v := .tuple #[tokV 0 ⟨#[]⟩ noV 0, .bool false]) (by simp [results, Tryz.results47, go_sem, tokV, noV, q0, q1, q2, q3, q4, q5, q6]) rfl ⟨by rw [hres.out], ?_⟩
   exact below_set7 (below_box0 hb1) (Nat.le_refl _) _ _ _ _ _ _ _

def mp (B : List UInt8) (k : Nat) (o : Option (List UInt8 × Nat)) : Option (List UInt8 × Nat) := o.map fun y => (B ++ y.1, k + y.2)
def TextTo (r B : List UInt8) (k : Nat) : Bool → Prop
 | false => textG r = mp B k (textG (r.drop k))
 | true => 1 ≤ k ∧ (∃ a q, r.drop (k - 1) = a :: q ∧ a.toNat = 39 ∧ ∃ a2 q2, q = a2 :: q2 ∧ a2.toNat = 39) ∧ textG r = mp B (k - 1) (textG (r.drop (k - 1)))
theorem textTo_start (r : List UInt8) : TextTo r [] 0 false := by
 unfold TextTo mp
 cases h : textG r with
 | none => simp [h]
 | some y => simp [h]
theorem textG_cons (c : UInt8) (r : List UInt8) : textG (c :: r) = if c.toNat = 39 then (match r with | [] => some ([], 1) | d :: q => if d.toNat = 39 then (textG q).map (fun x => (c :: x.1, x.2 + 2)) else some ([], 1)) else if plainB c = true then (textG r).map (fun x => (c :: x.1, x.2 + 1)) else none := by
 rw [textG.eq_def]
 rfl
theorem drop_two {r : List UInt8} {k : Nat} {a : UInt8} {q : List UInt8} (h : r.drop k = a :: q) : r.drop (k + 1) = q := by
 rw [← List.drop_drop, h]
 rfl
theorem textTo_pair {r B : List UInt8} {k : Nat} (h : TextTo r B k false) {a a2 : UInt8} {q : List UInt8} (hd : r.drop k = a :: a2 :: q) (h1 : a.toNat = 39) (h2 : a2.toNat = 39) : TextTo r B (k + 1) true :=
 ⟨by omega, ⟨a, a2 :: q, hd, h1, a2, q, rfl, h2⟩, h⟩
theorem textTo_second {r B : List UInt8} {k : Nat} (h : TextTo r B k true) (c : UInt8) (q : List UInt8) (hc : r.drop k = c :: q) : c.toNat = 39 ∧ TextTo r (B ++ [c]) (k + 1) false := by
 obtain ⟨hk, ⟨a, q1, hd, ha, a2, q2, rfl, ha2⟩, ht⟩ := h
 obtain ⟨j, rfl⟩ : ∃ j, k = j + 1 := ⟨k - 1, by omega⟩
 rw [Nat.add_sub_cancel] at hd ht
 have h2 := drop_two hd
 rw [hc] at h2
 obtain ⟨rfl, rfl⟩ := List.cons.inj h2
 refine ⟨ha2, ?_⟩
 have e : a = c := UInt8.toNat_inj.1 (by omega)
 show textG r = mp (B ++ [c]) (j + 1 + 1) (textG (r.drop (j + 1 + 1)))
 rw [ht, hd, drop_two hc, textG_cons, if_pos ha]
 simp only
 rw [if_pos ha2]
 unfold mp
 cases textG q with
 | none => rfl
 | some y => simp only [Option.map_some, List.append_assoc, List.cons_append, List.nil_append, e]; congr 2; omega
theorem textTo_end {r B : List UInt8} {k : Nat} (h : TextTo r B k false) {a : UInt8} {q : List UInt8} (hd : r.drop k = a :: q) (h1 : a.toNat = 39) (h2 : q.head? ≠ some 39) : textG r = some (B, k + 1) := by
 have h : textG r = mp B k (textG (r.drop k)) := h
 rw [h, hd, textG_cons, if_pos h1]
 cases q with
 | nil => simp [mp]
 | cons d q =>
  have : ¬ d.toNat = 39 := by
   intro e
   apply h2
   rw [show d = 39 from UInt8.toNat_inj.1 e]
   rfl
  simp only
  rw [if_neg this]
  simp [mp]
theorem textTo_bad {r B : List UInt8} {k : Nat} (h : TextTo r B k false) {a : UInt8} {q : List UInt8} (hd : r.drop k = a :: q) (h1 : ¬ a.toNat = 39) (h2 : plainB a = false) : textG r = none := by
 have h : textG r = mp B k (textG (r.drop k)) := h
 rw [h, hd, textG_cons, if_neg h1, if_neg (by simp [h2])]
 rfl
theorem textTo_next {r B : List UInt8} {k : Nat} (h : TextTo r B k false) {a : UInt8} {q : List UInt8} (hd : r.drop k = a :: q) (h1 : ¬ a.toNat = 39) (h2 : plainB a = true) : TextTo r (B ++ [a]) (k + 1) false := by
 have h : textG r = mp B k (textG (r.drop k)) := h
 show textG r = mp (B ++ [a]) (k + 1) (textG (r.drop (k + 1)))
 rw [h, hd, drop_two hd, textG_cons, if_neg h1, if_pos h2]
 unfold mp
 cases textG q with
 | none => rfl
 | some y => simp only [Option.map_some, List.append_assoc, List.cons_append, List.nil_append]; congr 2; omega
theorem textTo_over {r B : List UInt8} {k : Nat} {p : Bool} (h : TextTo r B k p) (hk : r.length ≤ k) : p = false ∧ textG r = none := by
 cases p with
 | true =>
  obtain ⟨h1, ⟨a, q, hd, _, a2, q2, rfl, _⟩, _⟩ := h
  have := congrArg List.length hd
  simp at this
  omega
 | false =>
  have h : textG r = mp B k (textG (r.drop k)) := h
  rw [h, List.drop_eq_nil_of_le hk]
  exact ⟨rfl, rfl⟩
theorem may_text (kd : Int) (hk : kd = 4 ∨ kd = 5) (B : List UInt8) : Val.may ⟨kd, 0, 0, str B⟩ = decide (B.length ≤ 40) := by
 by_cases h : B.length ≤ 40
 ·rw [decide_eq_true h]
  have h2 : ((str B).size : Int) ≤ 40 := by rw [size_str]; omega
  rcases hk with rfl | rfl <;> simp only [Val.may, may, decide_eq_true h2] <;> rfl
 ·rw [decide_eq_false h]
  have h2 : ¬ ((str B).size : Int) ≤ 40 := by rw [size_str]; omega
  rcases hk with rfl | rfl <;> simp only [Val.may, may, decide_eq_false h2] <;> rfl
set_option maxHeartbeats 2000000 in
theorem readText_any (s : ByteArray) (hs : 1 ≤ s.size) (hs2 : s.size ≤ 100000) (w : World) :
  Calls Tryz.prog 53 #[.string s] w fun e w' => e = .returned (tkV s.data.toList (textT (s.data.toList.drop 1))) ∧ Below w.heap.size w w' := by
 have hl : s.data.toList.length = s.size := rfl
 obtain ⟨x, hx⟩ : ∃ x, s.extract 1 s.size = x := ⟨_, rfl⟩
 have hxd : s.data.toList.drop 1 = x.data.toList := by rw [← hx, ext_drop, data_str]
 have hxs : x.size = s.size - 1 := by rw [← hx, ext_drop, size_str, List.length_drop, hl]
 have hxl : x.data.toList.length = x.size := rfl
 have hxm : (x.size : Int) ≤ 100000 := by omega
 have hres : Hid (∀ y, textG x.data.toList = y → tkV s.data.toList (textT (s.data.toList.drop 1)) = match y with | some z => if z.1.length ≤ 40 then .tuple #[tokV 3 (str (s.data.toList.take (z.2 + 1))) ⟨5, 0, 0, str z.1⟩ 0, .bool true] else .tuple #[tokV 0 ⟨#[]⟩ noV 0, .bool false] | none => .tuple #[tokV 0 ⟨#[]⟩ noV 0, .bool false]) := by
  intro y hy
  rw [hxd, textT, hy]
  cases y with
  | none => rfl
  | some z =>
   simp only
   by_cases h40 : z.1.length ≤ 40
   ·rw [if_pos h40, if_pos h40]
    rfl
   ·rw [if_neg h40, if_neg h40]
    rfl
 have hxs2 : Hid (x.size = s.size - 1) := hxs
 clear hxd hxs
 generalize tkV s.data.toList (textT (s.data.toList.drop 1)) = R at *
 go_enter Tryz.func53, Tryz.ntmps53
 go_wp2
 go_loopw [5, 6, 7, 8, 13] (fun v p _ _ i wr => ∃ (k : Nat) (B : List UInt8) (pb : Bool), k ≤ x.size ∧ B.length ≤ k ∧ i = .int .i64 (k : Int) ∧ p = .bool pb ∧ Hid (TextTo x.data.toList B k pb) ∧ wr.ownsRow (w.heap.size + 1) 5 1 v B.length (cellsOf B) ∧ Below (w.alloc zBox).heap.size (w.alloc zBox) wr) (fun _ _ _ _ i _ => x.size - (intOf i).toNat)
 case atStart => exact ⟨0, [], false, by omega, by simp, rfl, rfl, textTo_start _, World.ownsRow_nil _ _ _ _, Below.refl _ _⟩
 case round =>
  obtain ⟨k, B, pb, hk, hBk, rfl, rfl, HT, hown, hbel⟩ := hrel
  have hsz : w.heap.size + 1 ≤ wr.heap.size := by have := hbel.size; simpa using this
  have hzb := zbox_at hbel
  obtain ⟨q0, q1, q2, q3, q4, q5, q6⟩ := cells7 hzb
  obtain ⟨z0, z1, z2, z3, z4, z5, z6⟩ := free7 hzb
  clear hzb
  by_cases hkx : k < x.size
  ·have hdk := sdrop_at x k hkx
   have hpl := plain_any x[k]
   have he := int_eq x[k] 39
   have he : (((x[k].toNat : Nat) : Int) == 39) = decide (x[k].toNat = 39) := he
   cases pb with
   | true =>
    obtain ⟨hx0, hn⟩ := textTo_second HT.out _ _ hdk
    clear hx0
    have hn : Hid (TextTo x.data.toList (B ++ [x[k]]) (k + 1) false) := hn
    clear HT hdk he hpl q0 q1 q2 q3 q4 q5 q6 z0 z1 z2 z3 z4 z5 z6
    go_wp2_with (first
     | (at_builtin; refine wpList_app _ rfl (.tmp 25) _ rfl (w.heap.size + 1) _ B.length _ rfl (World.ownsRow.alloc hown _) _ _ _ [x[k]] rfl rfl (one_new _ _ _ _ rfl) (by omega) (by simp; omega) ?_; intro v4 w4 hown4 hbel4))
    go_roundw
    case rel => exact ⟨k + 1, B ++ [x[k]], false, by omega, by simp; omega, by go_num, rfl, hn, by simpa using hown4, below_up hbel hbel4⟩
    case measure => simp [intOf]; omega
   | false =>
    by_cases h39 : x[k].toNat = 39
    ·rw [decide_eq_true h39] at he
     obtain ⟨c, hc⟩ : ∃ c, x.extract (k + 1) x.size = c := ⟨_, rfl⟩
     have hcd : c.data.toList = x.data.toList.drop (k + 1) := by rw [← hc, ext_drop, data_str]
     have hcs : c.size ≤ 1000000 := by
      have e : c.size = c.data.toList.length := rfl
      rw [e, hcd, List.length_drop]
      omega
     have hq := quoted_any c hcs
     rw [hcd] at hq
     by_cases hh : (x.data.toList.drop (k + 1)).head? = some 39
     ·rw [decide_eq_true hh] at hq
      have hn : Hid (TextTo x.data.toList B (k + 1) true) := by
       cases hd : x.data.toList.drop (k + 1) with
       | nil => rw [hd] at hh; cases hh
       | cons a2 q =>
        rw [hd] at hh
        rw [hd] at hdk
        have hh := Option.some.inj hh
        subst hh
        exact textTo_pair HT.out hdk h39 rfl
      clear HT hdk hpl hcd hcs hh h39 q0 q1 q2 q3 q4 q5 q6 z0 z1 z2 z3 z4 z5 z6
      go_wp2_with (first
       | (go_at_call 46; refine (hq _).mono ?_; rintro e w3 ⟨rfl, rfl⟩))
      go_roundw
      case rel => exact ⟨k + 1, B, true, by omega, by omega, by go_num, rfl, hn, hown, hbel⟩
      case measure => simp [intOf]; omega
     ·rw [decide_eq_false hh] at hq
      have hfin := hres.out _ (textTo_end HT.out hdk h39 hh)
      simp only at hfin
      obtain ⟨t, ht⟩ : ∃ t, s.extract 0 (k + 2) = t := ⟨_, rfl⟩
      have htd : str (s.data.toList.take (k + 1 + 1)) = t := by rw [← ht, ext_take]
      rw [htd] at hfin
      have hks : (k : Int) + 2 ≤ (s.size : Int) := by have := hxs2.out; omega
      have hconv := conv_own wr.drew _ _ _ _ (World.ownsRow.drew hown)
      have hbd : Below (w.alloc zBox).heap.size (w.alloc zBox) wr.drew := hbel.drew
      clear HT hdk hpl hcd hcs hh h39 hres htd q0 q1 q2 q3 q4 q5 q6 z0 z1 z2 z3 z4 z5 z6
      by_cases h40 : B.length ≤ 40
      ·have hfin : Hid (R = .tuple #[tokV 3 t ⟨5, 0, 0, str B⟩ 0, .bool true]) := by
        unfold Hid
        rw [hfin, if_pos h40]
       rename_i hfin0
       clear hfin0
       have hv := valued_yes t ⟨5, 0, 0, str B⟩ (by rw [may_text _ (.inr rfl), decide_eq_true h40])
       unfold Val.v tokV at hv
       go_wp2_with (first
        | (go_at_call 46; refine (hq _).mono ?_; rintro e w3 ⟨rfl, rfl⟩))
       have hwr : IntKind.i64.wrap ((k : Int) + 2) = (k : Int) + 2 := by rw [IntKind.wrap_i64]; omega
       go_region_with (first
        | (go_at_call 92; refine (hv _).mono ?_; rintro e w3 ⟨rfl, hb3⟩; have hz := heap_next (zbox_at hbd) hb3; obtain ⟨q0, q1, q2, q3, q4, q5, q6⟩ := cells7 hz; obtain ⟨z0, z1, z2, z3, z4, z5, z6⟩ := free7 hz; clear hz))
       all_goals
        go_wp2
        refine bodyPost_ret (v := .tuple #[tokV 3 t ⟨5, 0, 0, str B⟩ 0, .bool true]) (by simp [results, Tryz.results53, go_sem, tokV, q0, q1, q2, q3, q4, q5, q6]) rfl ⟨by rw [hfin.out], ?_⟩
        exact below_set7 (below_two hbd hb3) (Nat.le_refl _) _ _ _ _ _ _ _
      ·have hfin : Hid (R = .tuple #[tokV 0 ⟨#[]⟩ noV 0, .bool false]) := by
        unfold Hid
        rw [hfin, if_neg h40]
       rename_i hfin0
       clear hfin0
       have hv := valued_no t ⟨5, 0, 0, str B⟩ (by rw [may_text _ (.inr rfl), decide_eq_false h40])
       unfold Val.v tokV noV at hv
       go_wp2_with (first
        | (go_at_call 46; refine (hq _).mono ?_; rintro e w3 ⟨rfl, rfl⟩))
       have hwr : IntKind.i64.wrap ((k : Int) + 2) = (k : Int) + 2 := by rw [IntKind.wrap_i64]; omega
       go_region_with (first
        | (go_at_call 92; refine (hv _).mono ?_; rintro e w3 ⟨rfl, hb3⟩; have hz := heap_next (zbox_at hbd) hb3; obtain ⟨q0, q1, q2, q3, q4, q5, q6⟩ := cells7 hz; obtain ⟨z0, z1, z2, z3, z4, z5, z6⟩ := free7 hz; clear hz))
       all_goals
        go_wp2
        refine bodyPost_ret (v := .tuple #[tokV 0 ⟨#[]⟩ noV 0, .bool false]) (by simp [results, Tryz.results53, go_sem, tokV, noV, q0, q1, q2, q3, q4, q5, q6]) rfl ⟨by rw [hfin.out], ?_⟩
        exact below_set7 (below_two hbd hb3) (Nat.le_refl _) _ _ _ _ _ _ _
    ·rw [decide_eq_false h39] at he
     cases hp : plainB x[k] with
     | true =>
      rw [hp] at hpl
      have hn : Hid (TextTo x.data.toList (B ++ [x[k]]) (k + 1) false) := textTo_next HT.out hdk h39 hp
      clear HT hdk h39 hp q0 q1 q2 q3 q4 q5 q6 z0 z1 z2 z3 z4 z5 z6
      go_wp2_with (first
       | (go_at_call 99; refine (hpl _).mono ?_; rintro e w3 ⟨rfl, rfl⟩)
       | (at_builtin; refine wpList_app _ rfl (.tmp 19) _ rfl (w.heap.size + 1) _ B.length _ rfl (World.ownsRow.alloc hown _) _ _ _ [x[k]] rfl rfl (one_new _ _ _ _ rfl) (by omega) (by simp; omega) ?_; intro v4 w4 hown4 hbel4))
      go_roundw
      case rel => exact ⟨k + 1, B ++ [x[k]], false, by omega, by simp; omega, by go_num, rfl, hn, by simpa using hown4, below_up hbel hbel4⟩
      case measure => simp [intOf]; omega
     | false =>
      rw [hp] at hpl
      have hfin : Hid (R = .tuple #[tokV 0 ⟨#[]⟩ noV 0, .bool false]) := hres.out _ (textTo_bad HT.out hdk h39 hp)
      clear HT hdk h39 hp hres
      go_wp2_with (first
       | (go_at_call 99; refine (hpl _).mono ?_; rintro e w3 ⟨rfl, rfl⟩))
      refine bodyPost_ret (v := .tuple #[tokV 0 ⟨#[]⟩ noV 0, .bool false]) (by simp [results, Tryz.results53, go_sem, tokV, noV, q0, q1, q2, q3, q4, q5, q6]) rfl ⟨by rw [hfin.out], ?_⟩
      exact below_set7 (below_box0 hbel) (Nat.le_refl _) _ _ _ _ _ _ _
  ·obtain ⟨rfl, hov⟩ := textTo_over HT.out (by omega)
   have hfin : Hid (R = .tuple #[tokV 0 ⟨#[]⟩ noV 0, .bool false]) := hres.out _ hov
   clear HT hres hov
   go_wp2
   refine bodyPost_ret (v := .tuple #[tokV 0 ⟨#[]⟩ noV 0, .bool false]) (by simp [results, Tryz.results53, go_sem, tokV, noV, q0, q1, q2, q3, q4, q5, q6]) rfl ⟨by rw [hfin.out], ?_⟩
   exact below_set7 (below_box0 hbel) (Nat.le_refl _) _ _ _ _ _ _ _
end Go.Proofs.YtiajlhjjmlakmaaGreatDoor
