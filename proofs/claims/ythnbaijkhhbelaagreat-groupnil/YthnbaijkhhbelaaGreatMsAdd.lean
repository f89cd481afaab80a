/-
  Contracts: post.Add.
-/
import Derived.Test.YthnbaijkhhbelaaGreatMsCop
namespace Go.Proofs.YthnbaijkhhbelaaGreat
open Go.RowKit Num
set_option linter.unusedVariables false
set_option maxRecDepth 100000

/-- Those of l, then those of more, as far as there is room. -/
def Num.addM (l more : Msgs) : Msgs := l ++ more.take (400 - l.length)
theorem addM_take (l more : Msgs) (E : Nat) (hE : E = min (l.length + more.length) (max l.length 400)) : (l ++ more).take E = addM l more := by
  unfold addM
  rw [List.take_append, List.take_of_length_le (by omega)]
  congr 1
  by_cases h : 400 - l.length ≤ more.length
  · congr 1
    omega
  · rw [List.take_of_length_le (by omega), List.take_of_length_le (by omega)]
theorem addM_len (l more : Msgs) : (addM l more).length = min (l.length + more.length) (max l.length 400) := by
  unfold addM
  rw [List.length_append, List.length_take]
  omega
theorem addM_mem {l more : Msgs} {m : Msg} (h : m ∈ addM l more) : m ∈ l ++ more := by
  unfold addM at h
  rcases List.mem_append.1 h with h | h
  · exact List.mem_append.2 (.inl h)
  · exact List.mem_append.2 (.inr (List.mem_of_mem_take h))
/-- slices.Delete of all from a place on. -/
theorem cutTo_any (B : Nat) (ao : Option Addr) (n cap E : Nat) (css : List (List Value)) (hlen : css.length = n) (hform : ∀ cs ∈ css, cs.length = 8 ∧ ∀ u ∈ cs, u.oneCell' = true) (hE : E ≤ n) (hn : n ≤ 10000) (w : World) (hB : B ≤ w.heap.size)
    (hown : w.ownsRow B 89 8 (.slice ao n cap) n css.flatten) :
    Calls Tryz.prog 71 #[.slice ao n cap, .int .i64 (E : Int), .int .i64 (n : Int)] w fun e w' => e = .returned (.slice ao E cap) ∧ w'.ownsRow B 89 8 (.slice ao E cap) E (css.take E).flatten ∧ Below B w w' := by
  by_cases h : E = n
  · subst h
    have hc : E ≤ cap ∧ cap ≤ maxLen := by
      rcases hown.2 with ⟨hv, h0⟩ | ⟨g, cap', cur, hv, _, _, h1, h2, _⟩
      · cases hv
        exact ⟨by omega, Nat.zero_le _⟩
      · cases hv
        exact ⟨h1, h2⟩
    refine (cutM_none ao E cap (by omega) hc.1 hc.2 w).mono ?_
    rintro e w' ⟨rfl, hb⟩
    rw [← hlen, List.take_length, hlen]
    exact ⟨rfl, own_below hown hb, hb.mono hB⟩
  · obtain ⟨g, rfl⟩ : ∃ g, ao = some ⟨g, 0, none⟩ := by
      rcases hown.2 with ⟨_, h0⟩ | ⟨g, _, _, hv, _⟩
      · omega
      · cases hv
        exact ⟨g, rfl⟩
    have hs : css.flatten = (css.take E).flatten ++ (css.drop E).flatten ++ [] := by rw [List.append_nil, ← List.flatten_append, List.take_append_drop]
    rw [hs] at hown
    have ht := flat_len (sz := 8) (css.take E) (fun cs hcs => (hform cs (List.mem_of_mem_take hcs)).1)
    have hd := flat_len (sz := 8) (css.drop E) (fun cs hcs => (hform cs (List.mem_of_mem_drop hcs)).1)
    rw [List.length_take] at ht
    rw [List.length_drop] at hd
    refine (cut_ms B g cap n E n E _ _ [] (by rw [ht, Nat.min_eq_left (by omega)]) (by rw [hd, hlen]) (by simp) (by simp) (by omega) (Nat.le_refl _) hn (by omega) w hown).mono ?_
    rintro e w' ⟨rfl, hown', hgr⟩
    rw [List.append_nil] at hown'
    exact ⟨rfl, hown', (Below.refl B w).grown hgr hB (fun j hj => (hown.lt j hj).1)⟩
theorem two_get {B : Nat} {w : World} {css1 css2 : List (List Value)} {l more : Msgs} (h1 : css1.length = l.length) (hV1 : ∀ (i : Nat) cs x, css1[i]? = some cs → l[i]? = some x → MsV B w cs x) (hV2 : ∀ (i : Nat) cs x, css2[i]? = some cs → more[i]? = some x → MsV B w cs x) (i : Nat) (cs : List Value) (x : Msg) (hi : (css1 ++ css2)[i]? = some cs) (hx : (l ++ more)[i]? = some x) : MsV B w cs x := by
  by_cases h : i < l.length
  · rw [List.getElem?_append_left (by omega)] at hi
    rw [List.getElem?_append_left h] at hx
    exact hV1 i cs x hi hx
  · rw [List.getElem?_append_right (by omega)] at hi
    rw [List.getElem?_append_right (by omega)] at hx
    rw [h1] at hi
    exact hV2 _ cs x hi hx
set_option maxRecDepth 100000 in
set_option maxHeartbeats 1000000 in
theorem add_any (l more : Msgs) (ao bo : Option Addr) (c d : Nat) (hn : l.length ≤ 1000) (hm : more.length ≤ 1000) (hlog : ∀ m ∈ l ++ more, m.log.length ≤ 3000) (w : World) (hl : LiesM w w.heap.size ao l) (hmo : LiesM w w.heap.size bo more) :
    Calls Tryz.prog 44 #[.slice ao l.length c, .slice bo more.length d] w fun e w' => ∃ v, e = .returned v ∧ OwnO w.heap.size w' v (addM l more) ∧ Below w.heap.size w w' := by
  obtain ⟨css1, hcl1, hcc1, hheld1, hV1⟩ := liesM_src hl
  obtain ⟨css2, hcl2, hcc2, hheld2, hV2⟩ := liesM_src hmo
  have hcat := fun o => fun (h0 : (w.alloc o).cell? ⟨w.heap.size, 0, none⟩ = some (.slice ao l.length c)) (h1 : (w.alloc o).cell? ⟨w.heap.size, 1, none⟩ = some (.slice bo more.length d)) => concat_any ao bo l.length more.length c d w.heap.size css1.flatten css2.flatten (by omega) (by omega) (w.alloc o) (src_next hheld1 ((Below.refl _ w).alloc (Nat.le_refl _) _)) (src_next hheld2 ((Below.refl _ w).alloc (Nat.le_refl _) _)) h0 h1
  have hform : ∀ cs ∈ css1 ++ css2, cs.length = 8 ∧ ∀ u ∈ cs, u.oneCell' = true := fun cs hcs => by
    rcases List.mem_append.1 hcs with h | h
    · exact hcc1 cs h
    · exact hcc2 cs h
  have hcl : (css1 ++ css2).length = l.length + more.length := by rw [List.length_append, hcl1, hcl2]
  obtain ⟨E, hE⟩ : ∃ E, E = min (l.length + more.length) (max l.length 400) := ⟨_, rfl⟩
  have hEi : min ((l.length : Int) + (more.length : Int)) (max (l.length : Int) 400) = (E : Int) := by omega
  have hadd := addM_take l more E hE
  have haddl : (addM l more).length = E := by rw [addM_len, hE]
  have hEn : E ≤ l.length + more.length := by omega
  have haddH : Hid ((addM l more).length = E) := haddl
  have haddS : (addM l more).length ≤ 3000 := by omega
  clear hE haddl
  go_enter Tryz.func44, Tryz.ntmps44
  go_wp2_with (first
    | (go_at_call 69; refine (hcat _ (by simp) (by simp)).mono ?_; rintro e w1 ⟨ao1, cap1, rfl, hown1, hb1⟩
       have hb1' := below_box0 hb1
       rw [← List.flatten_append] at hown1
       have hcut := cutTo_any _ ao1 (l.length + more.length) cap1 E (css1 ++ css2) hcl hform hEn (by omega) w1 hb1'.size (own_mono hown1 (by simp))
       rw [Int.natCast_add] at hcut
       clear hcat hown1)
    | (go_at_call 71; refine hcut.mono ?_; rintro e w2 ⟨rfl, hown2, hb2⟩
       have hb2' := hb1'.trans hb2
       have hown3 : OwnV w.heap.size w2 (.slice ao1 E cap1) (addM l more) := ⟨(css1 ++ css2).take E, by rw [List.length_take, hcl, haddH.out]; omega, fun cs hcs => hform cs (List.mem_of_mem_take hcs), by rw [haddH.out]; exact hown2, fun i cs x hi hx => by
         rw [← hadd] at hx
         rw [List.getElem?_take] at hi hx
         split at hi
         · rename_i hlt
           rw [if_pos hlt] at hx
           exact msV_below hb2' (two_get hcl1 hV1 hV2 i cs x hi hx)
         · cases hi⟩
       obtain ⟨ao3, cap3, hv3, hl3⟩ := ownV_lies hown3 hb2'.size
       have hcop := copiedM_any (addM l more) ao3 cap3 haddS (fun m hm => hlog m (addM_mem hm)) w2 hl3
       rw [← hv3] at hcop
       clear hcut hown2 hown3)
    | (go_at_call 70; refine hcop.mono ?_; rintro e w3 ⟨v, rfl, hown4, hb3⟩))
  go_ret
  exact ⟨_, rfl, hown4.mono hb2'.size (fun cs x h => by obtain ⟨c, e, h⟩ := h; exact ⟨c, e, own_mono h hb2'.size⟩), hb2'.trans (hb3.mono hb2'.size)⟩
end Go.Proofs.YthnbaijkhhbelaaGreat
