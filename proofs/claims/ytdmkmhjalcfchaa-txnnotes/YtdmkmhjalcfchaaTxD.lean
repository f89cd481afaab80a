/-
  Contracts: a transaction's own writes between two keys, by rising keys (own).
-/
import Derived.Test.YtdmkmhjalcfchaaTxIt
import Derived.Test.YtdmkmhjalcfchaaTxC
namespace Go.Proofs.Ytdmkmhjalcfchaa
open Go.RowKit Go.Maps Num
open scoped Classical
set_option linter.unusedVariables false
set_option maxRecDepth 100000

theorem upW_keys {ws : List Wrt} (h : UpW ws) : UpT (ws.map Wrt.key) := by
  unfold UpT
  rw [List.pairwise_map]
  exact h
theorem ownW_snoc (ws : List Wrt) (lo hi : ByteArray) {k : Nat} {x : Wrt} (hx : ws[k]? = some x) : ownW (ws.take (k + 1)) lo hi = if withinB x.key lo hi = true then ownW (ws.take k) lo hi ++ [x] else ownW (ws.take k) lo hi := by
  unfold ownW
  rw [take_succ_at hx, List.filter_append]
  split
  · rename_i h
    simp [h]
  · rename_i h
    simp [h]
set_option maxRecDepth 100000 in
set_option maxHeartbeats 2000000 in
theorem town_any (B g : Nat) (t : Tx) (so : Option Nat) (lo hi : ByteArray) (F : Nat → Prop) (w : World) (h : HoldT B w g t so F) :
    Calls Try.prog 41 #[.pointer (some ⟨g, 0, none⟩), .string lo, .string hi] w fun e w' => ∃ ao cap, e = .returned (.slice ao (ownW t.ws lo hi).length cap) ∧ w'.ownsRow w.heap.size 54 3 (.slice ao (ownW t.ws lo hi).length cap) (ownW t.ws lo hi).length (wrtCells (ownW t.ws lo hi)) ∧ Below w.heap.size w w' := by
  obtain ⟨⟨am, wm, ao, cap, h, hf⟩, hF⟩ := h
  have c4 := (tx_cells h).2.2.2.2
  have hws := h.wrs
  have hok := h.ok
  have hlen : (t.ws.map Wrt.key).length = t.ws.length := List.length_map _
  have hl1 := hok.limW
  have hl2 := hok.lim
  have hsort := sortedW_any wm t.lim (t.ws.map Wrt.key) (by omega) (upW_keys hok.ws) w (by
    rcases hws with ⟨e1, e2⟩ | ⟨gm, D, e, hG⟩
    · exact .inl ⟨e1, by rw [e2]; rfl⟩
    · refine .inr ⟨gm, D, e, hG.map, fun k => (hG.has k).trans ?_⟩
      rw [List.mem_map])
  rw [hlen] at hsort
  have hgl := h.lt
  clear h hf hF hl2
  have hsm := hok.small
  have hlim := hok.lim
  clear hok
  generalize t.ws = ws at *
  obtain ⟨out, hout⟩ : ∃ out, ownW ws lo hi = out := ⟨_, rfl⟩
  have HOUT : Hid (ownW ws lo hi = out) := hout
  rw [hout]
  clear hout
  go_enter Try.func41, Try.ntmps41
  go_wp2_with (first
    | (go_at_call 60; refine (mapsKeysW _ _).mono ?_; rintro e w0 ⟨rfl, rfl⟩)
    | (go_at_call 49; refine hsort.mono ?_; rintro e w1 ⟨ao1, cap1, rfl, hrow1, hb1⟩))
  obtain ⟨ao2, cap2, e2, hl⟩ := own_txt (l := ws.map Wrt.key) (by rw [hlen]; exact hrow1)
  rw [hlen] at e2
  cases e2
  have c41 : w1.cell? ⟨g, 4, none⟩ = some (.map wm) := (hb1.cell (cell_lt c4)).trans c4
  have hlt1 : ∀ (i : Nat) x, (ws.map Wrt.key)[i]? = some x → ∀ a, ao1 = some a → a.block < w1.heap.size := fun i x _ a ha => (row_lt hrow1 ha).2
  clear hrow1 hsort hlen
  go_loopw [7, 17] (fun v i wr => ∃ (k : Nat) (acc : List Wrt), k ≤ ws.length ∧ i = .int .i64 (k : Int) ∧ Below w1.heap.size w1 wr ∧ wr.ownsRow w1.heap.size 54 3 v acc.length (wrtCells acc) ∧ acc.length ≤ k ∧ Hid (acc = ownW (ws.take k) lo hi)) (fun _ i _ => ws.length - (intOf i).toNat)
  case atStart => exact ⟨0, [], by omega, rfl, Below.refl _ _, World.ownsRow_nil _ _ _ _, Nat.le_refl _, rfl⟩
  case round =>
    obtain ⟨k, acc, hk, rfl, hbel, hown, hak, HF⟩ := hrel
    have hbw := below_next hb1 (Nat.le_refl _) hbel
    have hsz := hbel.size
    by_cases hkl : k < ws.length
    · have HX : Hid (ws[k]? = some ws[k]) := List.getElem?_eq_getElem hkl
      have hkey : (ws.map Wrt.key)[k]? = some ws[k].key := by rw [List.getElem?_map, HX.out]; rfl
      obtain ⟨a, rfl, e0w⟩ := hl k _ hkey
      have hab := hlt1 k _ hkey a rfl
      have e0 : wr.cell? (a.add k) = some (.string ws[k].key) := (hbel.cell (by rw [Addr.block_add]; exact hab)).trans e0w
      have hmem : ws[k] ∈ ws := List.getElem_mem hkl
      have hxs := big_le (hsm ws[k] hmem)
      have hwr : WrsAt wr wm t.lim ws := hws.same (fun i es c hi e => by
        rw [hbw.block i (hws.lt hi)]
        exact e)
      have hrun := run_wrt hwr hmem hxs
      unfold wrtV at hrun
      have c4r : wr.cell? ⟨g, 4, none⟩ = some (.map wm) := (hbel.cell (cell_lt c41)).trans c41
      have i1 : (k : Int) < (ws.length : Int) := by omega
      clear hkey e0w hwr hmem
      generalize ws[k] = x at *
      obtain ⟨ao3, cap3, rfl, _⟩ := own_liesW hown
      cases hlo : Op.bytesLess x.key.toList lo.toList with
      | true =>
        have hin : withinB x.key lo hi = false := by unfold withinB; rw [hlo]; rfl
        have HF2 : Hid (acc = ownW (ws.take (k + 1)) lo hi) := by
          rw [ownW_snoc ws lo hi HX.out, if_neg (by rw [hin]; simp)]
          exact HF.out
        clear HX HF hin HOUT hrun
        go_wp2
        go_roundw
        case rel => exact ⟨k + 1, acc, by omega, by go_num, hbel, hown, by omega, HF2.out⟩
        case measure => simp [intOf]; omega
      | false =>
        by_cases he : hi.toList = []
        · have he2 : (hi.toList == []) = true := by rw [he]; rfl
          have hin : withinB x.key lo hi = true := by unfold withinB; rw [hlo, he]; rfl
          clear he
          have HF2 : Hid (acc ++ [x] = ownW (ws.take (k + 1)) lo hi) := by
            rw [ownW_snoc ws lo hi HX.out, if_pos hin, ← HF.out]
            exact rfl
          clear HX HF hin HOUT
          go_wp2_with (first
            | (at_builtin; refine wpList_appX _ rfl _ _ 45 rfl 54 3 40 Try.underlying45 Try.infoWrt w1.heap.size _ acc.length (wrtCells acc) rfl (hown.alloc _) ⟨wr.heap.size, 0, none⟩ 1 [.string x.key, .string x.val, .bool x.del] rfl rfl (wrtC_one x) (new_cells _ _ [.string x.key, .string x.val, .bool x.del] _ rfl) ⟨by omega, by decide, by decide, rfl⟩ (by simp; omega) ?_; intro v3 w3 hown3 hbel3 hst3))
          go_roundw
          case rel => exact ⟨k + 1, acc ++ [x], by omega, by go_num, (hbel.alloc (by omega) _).trans hbel3, by rw [List.length_append, wrtCells_append]; exact hown3, by simp only [List.length_append, List.length_singleton]; omega, HF2.out⟩
          case measure => simp [intOf]; omega
        · have he2 : (hi.toList == []) = false := by simpa using he
          have he3 : hi.toList.isEmpty = false := by
            cases h : hi.toList with
            | nil => exact absurd h he
            | cons a l => rfl
          cases hhi : Op.bytesLess x.key.toList hi.toList with
          | true =>
            have hin : withinB x.key lo hi = true := by unfold withinB; rw [hlo, hhi, he3]; rfl
            clear he he3
            have HF2 : Hid (acc ++ [x] = ownW (ws.take (k + 1)) lo hi) := by
              rw [ownW_snoc ws lo hi HX.out, if_pos hin, ← HF.out]
              exact rfl
            clear HX HF hin HOUT
            go_wp2_with (first
              | (at_builtin; refine wpList_appX _ rfl _ _ 45 rfl 54 3 40 Try.underlying45 Try.infoWrt w1.heap.size _ acc.length (wrtCells acc) rfl (hown.alloc _) ⟨wr.heap.size, 0, none⟩ 1 [.string x.key, .string x.val, .bool x.del] rfl rfl (wrtC_one x) (new_cells _ _ [.string x.key, .string x.val, .bool x.del] _ rfl) ⟨by omega, by decide, by decide, rfl⟩ (by simp; omega) ?_; intro v3 w3 hown3 hbel3 hst3))
            go_roundw
            case rel => exact ⟨k + 1, acc ++ [x], by omega, by go_num, (hbel.alloc (by omega) _).trans hbel3, by rw [List.length_append, wrtCells_append]; exact hown3, by simp only [List.length_append, List.length_singleton]; omega, HF2.out⟩
            case measure => simp [intOf]; omega
          | false =>
            have hin : withinB x.key lo hi = false := by unfold withinB; rw [hlo, hhi, he3]; rfl
            clear he he3
            have HF2 : Hid (acc = ownW (ws.take (k + 1)) lo hi) := by
              rw [ownW_snoc ws lo hi HX.out, if_neg (by rw [hin]; simp)]
              exact HF.out
            clear HX HF hin HOUT hrun
            go_wp2
            go_roundw
            case rel => exact ⟨k + 1, acc, by omega, by go_num, hbel, hown, by omega, HF2.out⟩
            case measure => simp [intOf]; omega
    · obtain rfl : k = ws.length := by omega
      have hres : ownW ws lo hi = acc := by
        have := HF.out
        rw [List.take_length] at this
        exact this.symm
      obtain rfl : acc = out := hres.symm.trans HOUT.out
      have hOO := own_mono hown hb1.size
      obtain ⟨ao2, cap2, rfl, _⟩ := own_liesW hOO
      have i1 : ¬ (ws.length : Int) < (ws.length : Int) := by omega
      clear hres HF HOUT
      go_wp2
      go_ret
      exact ⟨ao2, cap2, rfl, hOO, hbw⟩
end Go.Proofs.Ytdmkmhjalcfchaa
