/-
  Contracts: the readers of package lex: digits in quotes, words and names.
-/
import Derived.Test.YtiajlhjjmlakmaaGreatDoorLxP
import Derived.Test.YtiajlhjjmlakmaaGreatDoorLxWd
namespace Go.Proofs.YtiajlhjjmlakmaaGreatDoor
open Go.RowKit Num
set_option linter.unusedVariables false
set_option maxRecDepth 100000

/-- What a reader tells of a token at the beginning of bytes. -/
def tkV (l : List UInt8) : Option Tk → Value
  | some x => .tuple #[tokV x.1 (str (l.take x.2.1)) x.2.2 0, .bool true]
  | none => .tuple #[tokV 0 ⟨#[]⟩ noV 0, .bool false]
theorem tk_open (l : List UInt8) (o : Option Tk) : ∃ k t v b, tkV l o = .tuple #[tokV k t v 0, .bool b] := by
  cases o with
  | none => exact ⟨_, _, _, _, rfl⟩
  | some x => exact ⟨_, _, _, _, rfl⟩
theorem str_of (s : ByteArray) : str s.data.toList = s := by
  unfold str
  rw [Array.toArray_toList]
theorem data_str (l : List UInt8) : (str l).data.toList = l := by simp [str]
theorem size_str (l : List UInt8) : (str l).size = l.length := rfl
theorem ext_take (s : ByteArray) (k : Nat) : s.extract 0 k = str (s.data.toList.take k) := by
  rw [← str_of (s.extract 0 k), Go.Lib.extract_data]
  simp
theorem ext_drop (s : ByteArray) (k : Nat) : s.extract k s.size = str (s.data.toList.drop k) := by
  rw [← str_of (s.extract k s.size), Go.Lib.extract_data]
  congr 1
  apply List.take_of_length_le
  have : s.data.toList.length = s.size := rfl
  simp only [List.length_drop]
  omega
theorem readDigits_yes (s : ByteArray) (hs : 2 ≤ s.size) (hs2 : s.size ≤ 1000000) (d : List UInt8) (hd : digsG (s.data.toList.drop 2) = some d) (w : World) :
    Calls Tryz.prog 90 #[.string s] w fun e w' => e = .returned (.tuple #[.string (str (s.data.toList.take (d.length + 3))), .string (str d), .bool true]) ∧ Below w.heap.size w w' := by
  have hlen := digsG_len hd
  have hl : s.data.toList.length = s.size := rfl
  simp only [List.length_drop] at hlen
  obtain ⟨b, hb⟩ : ∃ b, s.extract 2 s.size = b := ⟨_, rfl⟩
  have hbd : b = str (s.data.toList.drop 2) := by rw [← hb, ext_drop]
  have hbs : b.size = s.size - 2 := by rw [hbd, size_str, List.length_drop, hl]
  have hr := run_hex b (by omega)
  rw [hbd, data_str] at hr
  rw [← hbd] at hr
  unfold digsG at hd
  split at hd
  · rename_i hq
    replace hd := Option.some.inj hd
    have hn := runL_le hexB (s.data.toList.drop 2)
    rw [List.length_drop, hl] at hn
    generalize runL hexB (s.data.toList.drop 2) = n at *
    have hdl : d.length = n := by rw [← hd, List.length_take, List.length_drop, hl]; omega
    obtain ⟨c, hc⟩ : ∃ c, b.extract n b.size = c := ⟨_, rfl⟩
    have hcd : c = str (s.data.toList.drop 2 |>.drop n) := by rw [← hc, ext_drop, hbd, data_str]
    have hcs : c.size ≤ 1000000 := by
      rw [hcd, size_str, List.length_drop, List.length_drop]
      omega
    have hqq := quoted_any c hcs
    rw [hcd, data_str, decide_eq_true hq, ← hcd] at hqq
    have h1 : b.extract 0 n = str d := by rw [ext_take, hbd, data_str, hd]
    have h2 : s.extract 0 (2 + n + 1) = str (s.data.toList.take (d.length + 3)) := by rw [ext_take, hdl]; congr 2; omega
    have hbs2 : Hid (b.size = s.size - 2) := hbs
    have hnb : (n : Int) ≤ (b.size : Int) := by omega
    have hbm : (b.size : Int) ≤ 1000000 := by omega
    have hns : (2 : Int) + (n : Int) + 1 ≤ (s.size : Int) := by omega
    clear hq hd hcd hbd hcs hdl hn hbs hlen hl
    go_enter Tryz.func90, Tryz.ntmps90
    go_wp2_with (first
      | (go_at_call 94; refine (hr _).mono ?_; rintro e w1 ⟨rfl, rfl⟩)
      | (go_at_call 46; refine (hqq _).mono ?_; rintro e w2 ⟨rfl, rfl⟩))
    go_region
    go_wp2
    refine bodyPost_ret (v := .tuple #[.string (str (s.data.toList.take (d.length + 3))), .string (str d), .bool true]) (by simp [results, Tryz.results90, go_sem, h2]) rfl ⟨rfl, rfl, rfl, rfl, Nat.le_refl _, fun _ _ => rfl⟩
  · cases hd
theorem readDigits_no (s : ByteArray) (hs : 2 ≤ s.size) (hs2 : s.size ≤ 1000000) (hd : digsG (s.data.toList.drop 2) = none) (w : World) :
    Calls Tryz.prog 90 #[.string s] w fun e w' => e = .returned (.tuple #[.string ⟨#[]⟩, .string ⟨#[]⟩, .bool false]) ∧ Below w.heap.size w w' := by
  have hl : s.data.toList.length = s.size := rfl
  obtain ⟨b, hb⟩ : ∃ b, s.extract 2 s.size = b := ⟨_, rfl⟩
  have hbd : b = str (s.data.toList.drop 2) := by rw [← hb, ext_drop]
  have hbs : b.size = s.size - 2 := by rw [hbd, size_str, List.length_drop, hl]
  have hr := run_hex b (by omega)
  rw [hbd, data_str] at hr
  rw [← hbd] at hr
  unfold digsG at hd
  split at hd
  · cases hd
  · rename_i hq
    have hn := runL_le hexB (s.data.toList.drop 2)
    rw [List.length_drop, hl] at hn
    generalize runL hexB (s.data.toList.drop 2) = n at *
    obtain ⟨c, hc⟩ : ∃ c, b.extract n b.size = c := ⟨_, rfl⟩
    have hcd : c = str (s.data.toList.drop 2 |>.drop n) := by rw [← hc, ext_drop, hbd, data_str]
    have hcs : c.size ≤ 1000000 := by
      rw [hcd, size_str, List.length_drop, List.length_drop]
      omega
    have hqq := quoted_any c hcs
    rw [hcd, data_str, decide_eq_false hq, ← hcd] at hqq
    have hnb : (n : Int) ≤ (b.size : Int) := by omega
    have hbm : (b.size : Int) ≤ 1000000 := by omega
    clear hq hd hcd hbd hcs hn hbs hl
    go_enter Tryz.func90, Tryz.ntmps90
    go_wp2_with (first
      | (go_at_call 94; refine (hr _).mono ?_; rintro e w1 ⟨rfl, rfl⟩)
      | (go_at_call 46; refine (hqq _).mono ?_; rintro e w2 ⟨rfl, rfl⟩))
    refine bodyPost_ret (v := .tuple #[.string ⟨#[]⟩, .string ⟨#[]⟩, .bool false]) (by simp [results, Tryz.results90, go_sem]) rfl ⟨rfl, Below.refl _ _⟩
theorem readName_any (s : ByteArray) (hs2 : s.size ≤ 1000000) (w : World) :
    Calls Tryz.prog 50 #[.string s] w fun e w' => e = .returned (tkV s.data.toList (nameT s.data.toList)) ∧ Below w.heap.size w w' := by
  have hl : s.data.toList.length = s.size := rfl
  have hr := run_let s hs2
  have hn := runL_le letB s.data.toList
  have hsh : ∀ x : List UInt8, words.contains x = true → x.length ≤ 16 := by
    intro x hx
    have : words.all (fun x => decide (x.length ≤ 16)) = true := by decide
    simpa using List.all_eq_true.1 this x (by simpa using hx)
  have hw := word_any (str (s.data.toList.take (runL letB s.data.toList)))
  rw [Lib.toList_data, data_str] at hw
  have hsh := hsh (s.data.toList.take (runL letB s.data.toList))
  rw [List.length_take, Nat.min_eq_left hn] at hsh
  have he := ext_take s (runL letB s.data.toList)
  have hsz : (str (s.data.toList.take (runL letB s.data.toList))).size = runL letB s.data.toList := by rw [size_str, List.length_take, Nat.min_eq_left hn]
  have hres : nameT s.data.toList = if runL letB s.data.toList ≤ 16 then some (if words.contains (s.data.toList.take (runL letB s.data.toList)) = true then 1 else 2, runL letB s.data.toList, noV) else none := rfl
  have hns : (runL letB s.data.toList : Int) ≤ (s.size : Int) := by omega
  generalize nameT s.data.toList = o at *
  have htk : Hid (∀ x, tkV s.data.toList (some (x, runL letB s.data.toList, noV)) = .tuple #[tokV x (str (s.data.toList.take (runL letB s.data.toList))) noV 0, .bool true]) := fun x => rfl
  generalize runL letB s.data.toList = n at *
  generalize hy : str (s.data.toList.take n) = y at *
  generalize words.contains (s.data.toList.take n) = q at *
  generalize s.data.toList = l at *
  clear hy hl hn
  cases q with
  | true =>
    have hn := hsh rfl
    rw [if_pos hn, if_pos rfl] at hres
    have hres2 : Hid (o = some (1, n, noV)) := hres
    clear hres hsh
    go_enter Tryz.func50, Tryz.ntmps50
    go_wp2_with (first
      | (go_at_call 94; refine (hr _).mono ?_; rintro e w1 ⟨rfl, rfl⟩)
      | (go_at_call 96; refine (hw _).mono ?_; rintro e w2 ⟨rfl, rfl⟩))
    refine bodyPost_ret (v := .tuple #[tokV 1 y noV 0, .bool true]) (by simp [results, Tryz.results50, go_sem, tokV, noV]) rfl ⟨by rw [hres2.out, htk.out], (Below.refl _ _).alloc (Nat.le_refl _) _⟩
  | false =>
    clear hsh
    by_cases hn : n ≤ 16
    · have hn2 : (n : Int) ≤ 16 := by omega
      have hy2 : (y.size : Int) ≤ 16 := by omega
      rw [if_pos hn] at hres
      have hres2 : Hid (o = some (2, n, noV)) := hres
      clear hres hsz
      go_enter Tryz.func50, Tryz.ntmps50
      go_wp2_with (first
        | (go_at_call 94; refine (hr _).mono ?_; rintro e w1 ⟨rfl, rfl⟩)
        | (go_at_call 96; refine (hw _).mono ?_; rintro e w2 ⟨rfl, rfl⟩))
      refine bodyPost_ret (v := .tuple #[tokV 2 y noV 0, .bool true]) (by simp [results, Tryz.results50, go_sem, tokV, noV]) rfl ⟨by rw [hres2.out, htk.out], (Below.refl _ _).alloc (Nat.le_refl _) _⟩
    · have hy2 : ¬ (y.size : Int) ≤ 16 := by omega
      rw [if_neg hn] at hres
      have hres2 : Hid (o = none) := hres
      clear hres hsz hn
      go_enter Tryz.func50, Tryz.ntmps50
      go_wp2_with (first
        | (go_at_call 94; refine (hr _).mono ?_; rintro e w1 ⟨rfl, rfl⟩)
        | (go_at_call 96; refine (hw _).mono ?_; rintro e w2 ⟨rfl, rfl⟩))
      refine bodyPost_ret (v := .tuple #[tokV 0 ⟨#[]⟩ noV 0, .bool false]) (by simp [results, Tryz.results50, go_sem, tokV, noV]) rfl ⟨by rw [hres2.out]; rfl, (Below.refl _ _).alloc (Nat.le_refl _) _⟩
end Go.Proofs.YtiajlhjjmlakmaaGreatDoor
