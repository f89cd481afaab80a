/-
  Contracts: the document's own writer: tables; its bytes of a schema, or that it is refused (6.3).
-/
import Derived.Test.YtndppffcladalaaDWri
import Derived.Test.YtndppffcladalaaDPut
namespace Go.Proofs.Ytndppffcladalaa
open Go.RowKit Num
set_option linter.unusedVariables false

theorem Num.Wri.ne {p B : Nat} {w0 w : World} {L : List UInt8} (h : Wri p B w0 w L) : w.heap.size ≠ p := by
  obtain ⟨v, hb, _⟩ := h.box
  have := (Array.getElem?_eq_some_iff.1 hb).1
  omega
set_option maxRecDepth 100000 in
set_option maxHeartbeats 4000000 in
theorem wTab_any {p B : Nat} {w0 w : World} {L : List UInt8} (hw0 : Wri p B w0 w L) (t : Tab) (hin : TabIn t) (ao2 : Option Addr) (cap2 : Nat) (ao3 : Option Addr) (cap3 : Nat) (hl2 : LiesK w B ao2 t.cols) (hl3 : LiesI w B ao3 t.idxs) (hlen : L.length + (tabB t).length ≤ 1000000) :
    Calls Try.prog 32 #[.pointer (some ⟨p, 0, none⟩), .agg #[.int .i64 t.id, .string t.name, .slice ao2 t.cols.length cap2, .slice ao3 t.idxs.length cap3, .int .i64 t.next]] w fun e w' => e = .returned (.tuple #[]) ∧ Wri p B w0 w' (L ++ tabB t) := by
  have hlen2 := hlen
  unfold tabB at hlen2
  simp only [List.length_append, lensB] at hlen2
  have hll2 : t.cols.length ≤ 1000000 := by
    have := flat_ge colB t.cols (fun x => by unfold colB; simp only [List.length_append, num8_len]; omega)
    omega
  have hll3 : t.idxs.length ≤ 1000000 := by
    have := flat_ge idxB t.idxs (fun x => by unfold idxB; simp only [List.length_append, num8_len]; omega)
    omega
  have hbt := heap_new w (.cells #[.int .i64 t.id, .string t.name, .slice ao2 t.cols.length cap2, .slice ao3 t.idxs.length cap3, .int .i64 t.next] 40)
  have hqt := hw0.ne
  have hbl : Below B w (w.alloc (.cells #[.int .i64 t.id, .string t.name, .slice ao2 t.cols.length cap2, .slice ao3 t.idxs.length cap3, .int .i64 t.next] 40)) := (Below.refl _ _).alloc hw0.le _
  have hc := (hw0.alloc (.cells #[.int .i64 t.id, .string t.name, .slice ao2 t.cols.length cap2, .slice ao3 t.idxs.length cap3, .int .i64 t.next] 40)).here
  have hfin : ∀ {w'} , Wri p B (w.alloc (.cells #[.int .i64 t.id, .string t.name, .slice ao2 t.cols.length cap2, .slice ao3 t.idxs.length cap3, .int .i64 t.next] 40)) w' (L ++ tabB t) → Wri p B w0 w' (L ++ tabB t) := fun h => (hw0.alloc _).chain h
  generalize hW : w.alloc (.cells #[.int .i64 t.id, .string t.name, .slice ao2 t.cols.length cap2, .slice ao3 t.idxs.length cap3, .int .i64 t.next] 40) = W at *
  have hl2' := hl2.below ColAt.fast hbl
  have hl3' := hl3.below IdxAt.fast hbl
  clear hbl hl2 hl3 hw0
  have bx := hbt; have c0 := box_cell bx 0 _ rfl; have c1 := box_cell bx 1 _ rfl; have c2 := box_cell bx 2 _ rfl; have c3 := box_cell bx 3 _ rfl; have c4 := box_cell bx 4 _ rfl
  go_enter Try.func32, Try.ntmps32
  go_wp2_with (first
    | (go_at_call 31; refine (wNum_any hc _ (by first | omega | (simp only [List.length_append, lensB]; omega))).mono ?_; rintro e _ ⟨rfl, hc⟩; have bx := hc.keep hbt (by decide) hqt; have c0 := box_cell bx 0 _ rfl; have c1 := box_cell bx 1 _ rfl; have c2 := box_cell bx 2 _ rfl; have c3 := box_cell bx 3 _ rfl; have c4 := box_cell bx 4 _ rfl)
    | (go_at_call 53; refine (wText_any hc _ (by first | omega | (simp only [List.length_append, lensB]; omega))).mono ?_; rintro e _ ⟨rfl, hc⟩; have bx := hc.keep hbt (by decide) hqt; have c0 := box_cell bx 0 _ rfl; have c1 := box_cell bx 1 _ rfl; have c2 := box_cell bx 2 _ rfl; have c3 := box_cell bx 3 _ rfl; have c4 := box_cell bx 4 _ rfl))
  go_loopw [4] (fun i wr => ∃ k : Nat, k ≤ t.cols.length ∧ i = .int .i64 (k : Int) ∧ Wri p B W wr (L ++ num8 t.id ++ txtB t.name ++ num8 (t.cols.length : Int) ++ (t.cols.take k).flatMap colB)) (fun i _ => t.cols.length - (intOf i).toNat)
  case atStart => exact ⟨0, by omega, rfl, hc.as (by simp)⟩
  case round =>
    clear hc bx c0 c1 c2 c3 c4
    obtain ⟨k, hk, rfl, hr⟩ := hrel
    have g2 := box_cell (hr.keep hbt (by decide) hqt) 2 _ rfl
    by_cases hkl : k < t.cols.length
    · obtain ⟨a, rfl, hblk, e0, e1, e2, e3, e4, e5, e6, e7, e8⟩ := (hl2'.below ColAt.fast hr.low) k t.cols[k] (List.getElem?_eq_getElem hkl)
      have hsum := flat_at colB t.cols k hkl
      have hcat := flat_snoc colB t.cols k hkl
      have hok := hin _ (List.getElem_mem hkl)
      generalize t.cols[k] = y at *
      have hcb : (colB y).length = 8 + (8 + y.name.size + (8 + (8 + (8 + (valB y.d).length)))) := by
        unfold colB
        simp only [List.length_append, num8_len, txt_len]
      have hbc := heap_new wr (.cells #[.int .i64 y.id, .string y.name, .int .i64 y.kind, .int .i64 y.state, .int .i64 y.null, .int .i64 y.d.k, .int .i64 y.d.n, .int .u64 (y.d.f : Int), .string y.d.s] 45)
      have hqc := hr.ne
      have hc := (hr.alloc (.cells #[.int .i64 y.id, .string y.name, .int .i64 y.kind, .int .i64 y.state, .int .i64 y.null, .int .i64 y.d.k, .int .i64 y.d.n, .int .u64 (y.d.f : Int), .string y.d.s] 45)).here
      have hfr : ∀ {w'}, Wri p B (wr.alloc (.cells #[.int .i64 y.id, .string y.name, .int .i64 y.kind, .int .i64 y.state, .int .i64 y.null, .int .i64 y.d.k, .int .i64 y.d.n, .int .u64 (y.d.f : Int), .string y.d.s] 45)) w' (L ++ num8 t.id ++ txtB t.name ++ num8 (t.cols.length : Int) ++ (t.cols.take (k + 1)).flatMap colB) → Wri p B W w' (L ++ num8 t.id ++ txtB t.name ++ num8 (t.cols.length : Int) ++ (t.cols.take (k + 1)).flatMap colB) := fun h => (hr.alloc _).chain h
      have hcolB : colB y = num8 y.id ++ (txtB y.name ++ (num8 y.kind ++ (num8 y.state ++ (num8 y.null ++ valB y.d)))) := rfl
      go_wp2_with (first
        | (go_at_call 31; refine (wNum_any hc _ (by first | omega | (simp only [List.length_append, lensB]; omega))).mono ?_; rintro e _ ⟨rfl, hc⟩; have bx := hc.keep hbc (by decide) hqc; have c0 := box_cell bx 0 _ rfl; have c1 := box_cell bx 1 _ rfl; have c2 := box_cell bx 2 _ rfl; have c3 := box_cell bx 3 _ rfl; have c4 := box_cell bx 4 _ rfl; have c5 := box_cell bx 5 _ rfl; have c6 := box_cell bx 6 _ rfl; have c7 := box_cell bx 7 _ rfl; have c8 := box_cell bx 8 _ rfl)
        | (go_at_call 53; refine (wText_any hc _ (by first | omega | (simp only [List.length_append, lensB]; omega))).mono ?_; rintro e _ ⟨rfl, hc⟩; have bx := hc.keep hbc (by decide) hqc; have c0 := box_cell bx 0 _ rfl; have c1 := box_cell bx 1 _ rfl; have c2 := box_cell bx 2 _ rfl; have c3 := box_cell bx 3 _ rfl; have c4 := box_cell bx 4 _ rfl; have c5 := box_cell bx 5 _ rfl; have c6 := box_cell bx 6 _ rfl; have c7 := box_cell bx 7 _ rfl; have c8 := box_cell bx 8 _ rfl)
        | (go_at_call 54; refine (wVal_any hc y.d hok (by first | omega | (simp only [List.length_append, lensB]; omega))).mono ?_; rintro e _ ⟨rfl, hc⟩))
      go_roundw
      case rel => exact ⟨k + 1, by omega, by go_num, hfr (hc.as (by rw [hcat, hcolB]; simp only [List.append_assoc]))⟩
      case measure => simp [intOf]; omega
    · have hke : k = t.cols.length := by omega
      subst hke
      rw [List.take_length] at hr
      have hc := hr
      clear hl2' hr hk hkl
      have bx := hc.keep hbt (by decide) hqt; have c0 := box_cell bx 0 _ rfl; have c1 := box_cell bx 1 _ rfl; have c2 := box_cell bx 2 _ rfl; have c3 := box_cell bx 3 _ rfl; have c4 := box_cell bx 4 _ rfl
      go_wp2_with (first
        | (go_at_call 31; refine (wNum_any hc _ (by first | omega | (simp only [List.length_append, lensB]; omega))).mono ?_; rintro e _ ⟨rfl, hc⟩))
      go_loopw [6] (fun i wr => ∃ k : Nat, k ≤ t.idxs.length ∧ i = .int .i64 (k : Int) ∧ Wri p B W wr (L ++ num8 t.id ++ txtB t.name ++ num8 (t.cols.length : Int) ++ t.cols.flatMap colB ++ num8 (t.idxs.length : Int) ++ (t.idxs.take k).flatMap idxB)) (fun i _ => t.idxs.length - (intOf i).toNat)
      case atStart => exact ⟨0, by omega, rfl, hc.as (by simp)⟩
      case round =>
        clear hc bx c0 c1 c2 c3 c4 g2
        obtain ⟨k, hk, rfl, hr⟩ := hrel
        have g3 := box_cell (hr.keep hbt (by decide) hqt) 3 _ rfl
        by_cases hkl : k < t.idxs.length
        · obtain ⟨a, rfl, hblk, e0, e1, ⟨ao4, cap4, e2, hl4, _⟩, e3, e4⟩ := (hl3'.below IdxAt.fast hr.low) k t.idxs[k] (List.getElem?_eq_getElem hkl)
          have hsum := flat_at idxB t.idxs k hkl
          have hcat := flat_snoc idxB t.idxs k hkl
          generalize t.idxs[k] = y at *
          have hcb : (idxB y).length = 8 + (8 + y.name.size + (8 + (y.cols.flatMap num8).length + (8 + 8))) := by
            unfold idxB
            simp only [List.length_append, num8_len, txt_len]
          have hll4 : y.cols.length ≤ 1000000 := by
            have := flat_ge num8 y.cols (fun x => by rw [num8_len]; omega)
            omega
          have hbc := heap_new wr (.cells #[.int .i64 y.id, .string y.name, .slice ao4 y.cols.length cap4, .bool y.uniq, .int .i64 y.state] 52)
          have hqc := hr.ne
          have hc := (hr.alloc (.cells #[.int .i64 y.id, .string y.name, .slice ao4 y.cols.length cap4, .bool y.uniq, .int .i64 y.state] 52)).here
          have hl4' := hl4.below NumAt.fast ((Below.refl B _).alloc hr.le (.cells #[.int .i64 y.id, .string y.name, .slice ao4 y.cols.length cap4, .bool y.uniq, .int .i64 y.state] 52))
          have hfr : ∀ {w'}, Wri p B (wr.alloc (.cells #[.int .i64 y.id, .string y.name, .slice ao4 y.cols.length cap4, .bool y.uniq, .int .i64 y.state] 52)) w' (L ++ num8 t.id ++ txtB t.name ++ num8 (t.cols.length : Int) ++ t.cols.flatMap colB ++ num8 (t.idxs.length : Int) ++ (t.idxs.take (k + 1)).flatMap idxB) → Wri p B W w' (L ++ num8 t.id ++ txtB t.name ++ num8 (t.cols.length : Int) ++ t.cols.flatMap colB ++ num8 (t.idxs.length : Int) ++ (t.idxs.take (k + 1)).flatMap idxB) := fun h => (hr.alloc _).chain h
          have hidxB : idxB y = num8 y.id ++ (txtB y.name ++ ((num8 (y.cols.length : Int) ++ y.cols.flatMap num8) ++ (num8 (if y.uniq then 1 else 0) ++ num8 y.state))) := rfl
          go_wp2_with (first
            | (go_at_call 31; refine (wNum_any hc _ (by first | omega | (simp only [List.length_append, lensB]; omega))).mono ?_; rintro e _ ⟨rfl, hc⟩; have bx := hc.keep hbc (by decide) hqc; have c0 := box_cell bx 0 _ rfl; have c1 := box_cell bx 1 _ rfl; have c2 := box_cell bx 2 _ rfl; have c3 := box_cell bx 3 _ rfl; have c4 := box_cell bx 4 _ rfl)
            | (go_at_call 53; refine (wText_any hc _ (by first | omega | (simp only [List.length_append, lensB]; omega))).mono ?_; rintro e _ ⟨rfl, hc⟩; have bx := hc.keep hbc (by decide) hqc; have c0 := box_cell bx 0 _ rfl; have c1 := box_cell bx 1 _ rfl; have c2 := box_cell bx 2 _ rfl; have c3 := box_cell bx 3 _ rfl; have c4 := box_cell bx 4 _ rfl))
          generalize hP : L ++ num8 t.id ++ txtB t.name ++ num8 (t.cols.length : Int) ++ t.cols.flatMap colB ++ num8 (t.idxs.length : Int) ++ (t.idxs.take k).flatMap idxB = P at *
          have hPl : P.length + (idxB y).length ≤ 1000000 := by
            rw [← hP]
            simp only [List.length_append, num8_len, txt_len]
            omega
          rename_i _ WW _ _ _ _
          go_loopw [8] (fun i wr2 => ∃ m : Nat, m ≤ y.cols.length ∧ i = .int .i64 (m : Int) ∧ Wri p B (wr.alloc (.cells #[.int .i64 y.id, .string y.name, .slice ao4 y.cols.length cap4, .bool y.uniq, .int .i64 y.state] 52)) wr2 (P ++ num8 y.id ++ txtB y.name ++ num8 (y.cols.length : Int) ++ (y.cols.take m).flatMap num8)) (fun i _ => y.cols.length - (intOf i).toNat)
          case atStart => exact ⟨0, by omega, rfl, hc.as (by simp)⟩
          case round =>
            clear hc bx c0 c1 c2 c3 c4
            obtain ⟨m, hm, rfl, hrm⟩ := hrel
            have bx := hrm.keep hbc (by decide) hqc; have c0 := box_cell bx 0 _ rfl; have c1 := box_cell bx 1 _ rfl; have c2 := box_cell bx 2 _ rfl; have c3 := box_cell bx 3 _ rfl; have c4 := box_cell bx 4 _ rfl
            by_cases hml : m < y.cols.length
            · obtain ⟨a5, rfl, hblk5, f0⟩ := (hl4'.below NumAt.fast hrm.low) m y.cols[m] (List.getElem?_eq_getElem hml)
              rw [Nat.mul_one] at f0
              unfold NumAt at f0
              have hsum5 := flat_at num8 y.cols m hml
              have hcat5 := flat_snoc num8 y.cols m hml
              rw [num8_len] at hsum5
              generalize y.cols[m] = d at *
              go_wp2_with (first
                | (go_at_call 31; refine (wNum_any hrm _ (by first | omega | (simp only [List.length_append, lensB]; omega))).mono ?_; rintro e _ ⟨rfl, hc⟩))
              go_roundw
              case rel => exact ⟨m + 1, by omega, by go_num, hc.as (by rw [hcat5]; simp only [List.append_assoc])⟩
              case measure => simp [intOf]; omega
            · have hke : m = y.cols.length := by omega
              subst hke
              rw [List.take_length] at hrm
              have hc := hrm
              go_wp2_with (first
                | (go_at_call 55; refine (wBool_any hc _ (by first | omega | (simp only [List.length_append, lensB]; omega))).mono ?_; rintro e _ ⟨rfl, hc⟩; have bx := hc.keep hbc (by decide) hqc; have c0 := box_cell bx 0 _ rfl; have c1 := box_cell bx 1 _ rfl; have c2 := box_cell bx 2 _ rfl; have c3 := box_cell bx 3 _ rfl; have c4 := box_cell bx 4 _ rfl)
                | (go_at_call 31; refine (wNum_any hc _ (by first | omega | (simp only [List.length_append, lensB]; omega))).mono ?_; rintro e _ ⟨rfl, hc⟩))
              go_roundw
              case rel => exact ⟨k + 1, by omega, by go_num, hfr (hc.as (by rw [hcat, hidxB, ← List.append_assoc _ _ (num8 y.id ++ _), hP]; simp only [List.append_assoc]))⟩
              case measure => simp [intOf]; omega
        · have hke : k = t.idxs.length := by omega
          subst hke
          rw [List.take_length] at hr
          have hc := hr
          have bx := hc.keep hbt (by decide) hqt; have c0 := box_cell bx 0 _ rfl; have c1 := box_cell bx 1 _ rfl; have c2 := box_cell bx 2 _ rfl; have c3 := box_cell bx 3 _ rfl; have c4 := box_cell bx 4 _ rfl
          go_wp2_with (first
            | (go_at_call 31; refine (wNum_any hc _ (by first | omega | (simp only [List.length_append, lensB]; omega))).mono ?_; rintro e _ ⟨rfl, hc⟩))
          go_end0
          refine ⟨rfl, hfin (hc.as ?_)⟩
          unfold tabB
          simp only [List.append_assoc]
end Go.Proofs.Ytndppffcladalaa
