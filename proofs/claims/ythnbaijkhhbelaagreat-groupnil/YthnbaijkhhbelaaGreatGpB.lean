/-
  Contracts: what a replica has become is kept, and what it sends goes under way.
-/
import Derived.Test.YthnbaijkhhbelaaGreatGpA
namespace Go.Proofs.YthnbaijkhhbelaaGreat
open Go.RowKit Num
open scoped Classical
set_option linter.unusedVariables false
set_option maxRecDepth 100000

def Num.setsL (l : List Value) : List (Nat × Value) → List Value
  | [] => l
  | (i, v) :: q => setsL (l.set i v) q
theorem own_sets {B e sz n b c : Nat} : ∀ (q : List (Nat × Value)) {w : World} {xs : List Value}, w.ownsRow B e sz (.slice (some ⟨b, 0, none⟩) n c) n xs → (sets w b q).ownsRow B e sz (.slice (some ⟨b, 0, none⟩) n c) n (setsL xs q) ∧ ∀ g, Save g b w (sets w b q)
  | [], w, xs, h => ⟨h, fun g => Save.refl _ _ _⟩
  | (i, v) :: q, w, xs, h => by
    obtain ⟨h1, h2⟩ := h.stored i v
    obtain ⟨h3, h4⟩ := own_sets q h1
    exact ⟨h3, fun g => (Save.grown b h2 (.inr rfl)).trans (h4 g)⟩
theorem setsL_skip (a : List Value) : ∀ (q : List (Nat × Value)) (t : List Value), setsL (a ++ t) (q.map fun p => (a.length + p.1, p.2)) = a ++ setsL t q
  | [], t => rfl
  | (i, v) :: q, t => by
    show setsL ((a ++ t).set (a.length + i) v) _ = a ++ setsL (t.set i v) q
    rw [List.set_append_right _ _ (by omega), Nat.add_sub_cancel_left]
    exact setsL_skip a q _
/-- The places of a replica that is written from o on. -/
abbrev Num.repS (o : Nat) (r : Rep) (s : Sl) : List (Nat × Value) := [(o, .int .i64 r.id), (o + 1, .int .i64 r.n), (o + 2, .int .i64 r.view), (o + 3, .int .i64 r.normal), (o + 4, .int .i64 r.how), (o + 5, .slice s.lo r.log.length s.lc), (o + 6, .int .i64 r.commit), (o + 7, .slice s.ao r.acked.length s.ac), (o + 8, .slice s.vo r.votes.length s.vc), (o + 9, .slice s.wo r.voters.length s.wc), (o + 10, .slice s.bo r.best.length s.bc), (o + 11, .int .i64 r.bestView), (o + 12, .int .i64 r.bestDone)]
theorem repS_skip (i : Nat) (r : Rep) (s : Sl) : repS ((i + 1) * 14) r s = (repS (i * 14) r s).map fun p => (14 + p.1, p.2) := by
  have e : (i + 1) * 14 = 14 + i * 14 := by omega
  rw [e]
  simp [repS, Nat.add_assoc]
theorem mbs_sets (r : Rep) (s : Sl) : ∀ (l : List Mbr) (i : Nat) (m : Mbr), l[i]? = some m → setsL (mbsCells l) (repS (i * 14) r s) = mbsCells (l.set i ⟨r, s, m.up⟩)
  | [], i, m, h => by simp at h
  | y :: l, 0, m, h => by
    simp at h
    subst h
    rw [Nat.zero_mul]
    rfl
  | y :: l, i + 1, m, h => by
    rw [repS_skip]
    have h2 := setsL_skip (mbCells y) (repS (i * 14) r s) (mbsCells l)
    rw [mb_len] at h2
    show setsL (mbCells y ++ mbsCells l) _ = mbCells y ++ mbsCells (l.set i _)
    rw [h2, mbs_sets r s l i m (by simpa using h)]
theorem ownO_save {g b B : Nat} {w w' : World} {v : Value} {l : Msgs} (h : OwnO B w v l) (hs : Save g b w w') (hg : ∀ cs fr, w.heap[g]? ≠ some (.cells cs 89 fr)) (hg2 : ∀ cs fr, w.heap[g]? ≠ some (.cells cs 78 fr)) (hb : ∀ cs fr, w.heap[b]? ≠ some (.cells cs 89 fr)) (hb2 : ∀ cs fr, w.heap[b]? ≠ some (.cells cs 78 fr)) : OwnO B w' v l := by
  have far : ∀ {e sz n : Nat} {u : Value} {xs : List Value}, w.ownsRow B e sz u n xs → (∀ cs fr, w.heap[g]? ≠ some (.cells cs e fr)) → (∀ cs fr, w.heap[b]? ≠ some (.cells cs e fr)) → w'.ownsRow B e sz u n xs := fun hr q1 q2 => by
    rcases hr.2 with h0 | ⟨k, cap, cur, hv, hbb, hgg, r⟩
    · exact ⟨hr.1, .inl h0⟩
    · exact ⟨hr.1, .inr ⟨k, cap, cur, hv, hbb, (hs.block k (Array.getElem?_eq_some_iff.1 hgg).1 (fun e => q1 _ _ (by rw [← e]; exact hgg)) (fun e => q2 _ _ (by rw [← e]; exact hgg))).trans hgg, r⟩⟩
  obtain ⟨css, h1, h2, h3, h4⟩ := h
  exact ⟨css, h1, h2, far h3 hg hb, fun i cs x hi hx => by
    obtain ⟨c, e1, h5⟩ := h4 i cs x hi hx
    exact ⟨c, e1, far h5 hg2 hb2⟩⟩
theorem rowsS_save {g b B : Nat} {w w' : World} {r : Rep} {s : Sl} (h : RowsS B w r s) (hs : Save g b w w') (hg : ∀ cs fr, w.heap[g]? ≠ some (.cells cs 3 fr)) (hg2 : ∀ cs fr, w.heap[g]? ≠ some (.cells cs 78 fr)) (hb : ∀ cs fr, w.heap[b]? ≠ some (.cells cs 3 fr)) (hb2 : ∀ cs fr, w.heap[b]? ≠ some (.cells cs 78 fr)) : RowsS B w' r s := by
  have far : ∀ {e sz n : Nat} {u : Value} {xs : List Value}, w.ownsRow B e sz u n xs → (∀ cs fr, w.heap[g]? ≠ some (.cells cs e fr)) → (∀ cs fr, w.heap[b]? ≠ some (.cells cs e fr)) → w'.ownsRow B e sz u n xs := fun hr q1 q2 => by
    rcases hr.2 with h0 | ⟨k, cap, cur, hv, hbb, hgg, r⟩
    · exact ⟨hr.1, .inl h0⟩
    · exact ⟨hr.1, .inr ⟨k, cap, cur, hv, hbb, (hs.block k (Array.getElem?_eq_some_iff.1 hgg).1 (fun e => q1 _ _ (by rw [← e]; exact hgg)) (fun e => q2 _ _ (by rw [← e]; exact hgg))).trans hgg, r⟩⟩
  exact ⟨far h.log hg2 hb2, far h.best hg2 hb2, far h.ack hg hb, far h.vot hg hb, far h.vor hg hb, h.a1, h.a2, h.a3, h.a4⟩
theorem row_block {w : World} {B e sz n b c : Nat} {xs : List Value} (h : w.ownsRow B e sz (.slice (some ⟨b, 0, none⟩) n c) n xs) : ∃ cs, w.heap[b]? = some (.cells cs e (0, 0)) := by
  rcases h.2 with ⟨hv, _⟩ | ⟨g', cap, cur, hv, _, hg, _⟩
  · cases hv
  · cases hv
    exact ⟨_, hg⟩
/-- A group's lists stay where its box and its members alone are written. -/
theorem grp_save {B : Nat} {w w' : World} {g b cap : Nat} {no : Option Addr} {nc : Nat} {ms : List Mbr} {net : Msgs} (h : GrpAt B w g b cap no nc ms net) (hs : Save g b w w') :
    (∀ {v : Value} {l : Msgs}, OwnO B w v l → OwnO B w' v l) ∧ ∀ {r : Rep} {s : Sl}, RowsS B w r s → RowsS B w' r s := by
  obtain ⟨cs, hcs⟩ := row_block h.row
  have hg : ∀ (t : TypeId), t ≠ 65 → ∀ cs fr, w.heap[g]? ≠ some (.cells cs t fr) := fun t ht cs fr e => by
    rw [h.box] at e
    cases e
    exact ht rfl
  have hb : ∀ (t : TypeId), t ≠ 68 → ∀ cs fr, w.heap[b]? ≠ some (.cells cs t fr) := fun t ht cs fr e => by
    rw [hcs] at e
    cases e
    exact ht rfl
  exact ⟨fun q => ownO_save q hs (hg _ (by decide)) (hg _ (by decide)) (hb _ (by decide)) (hb _ (by decide)), fun q => rowsS_save q hs (hg _ (by decide)) (hg _ (by decide)) (hb _ (by decide)) (hb _ (by decide))⟩
/-- A member is written. -/
theorem grp_member {B : Nat} {w : World} {g b cap : Nat} {no : Option Addr} {nc : Nat} {ms : List Mbr} {net : Msgs} (h : GrpAt B w g b cap no nc ms net) {i : Nat} {m : Mbr} (hm : ms[i]? = some m) (r : Rep) (s : Sl) (hr : RowsS B w r s) :
    GrpAt B (sets w b (repS (i * 14) r s)) g b cap no nc (ms.set i ⟨r, s, m.up⟩) net ∧ Save g b w (sets w b (repS (i * 14) r s)) := by
  obtain ⟨h1, h2⟩ := own_sets (repS (i * 14) r s) h.row
  have hs := h2 g
  rw [mbs_sets r s ms i m hm] at h1
  obtain ⟨q1, q2⟩ := grp_save h hs
  have hbg := h.bound.2.2.2
  have hgs : (sets w b (repS (i * 14) r s)).heap[g]? = w.heap[g]? := (h2 b).block g h.bound.2.2.1 (fun e => hbg e.symm) (fun e => hbg e.symm)
  refine ⟨⟨by rw [List.length_set]; exact hgs.trans h.box, by rw [List.length_set]; exact h1, q1 h.net, fun x hx => ?_, h.base, Nat.le_trans h.heap hs.size⟩, hs⟩
  rcases List.mem_or_eq_of_mem_set hx with hx | rfl
  · exact q2 (h.reps x hx)
  · exact q2 hr
/-- The net is written. -/
theorem grp_net {B : Nat} {w : World} {g b cap : Nat} {no : Option Addr} {nc : Nat} {ms : List Mbr} {net : Msgs} (h : GrpAt B w g b cap no nc ms net) (no' : Option Addr) (nc' : Nat) (net' : Msgs) (hn : OwnO B w (.slice no' net'.length nc') net') :
    GrpAt B (w.setCell ⟨g, 1, none⟩ (.slice no' net'.length nc')) g b cap no' nc' ms net' ∧ Save g b w (w.setCell ⟨g, 1, none⟩ (.slice no' net'.length nc')) := by
  have hs : Save g b w (w.setCell ⟨g, 1, none⟩ (.slice no' net'.length nc')) := Save.grown g (grown_set w g 1 _) (.inl rfl)
  obtain ⟨q1, q2⟩ := grp_save h hs
  have hbg := h.bound.2.2.2
  have hrow := h.row.kept (grown_set w g 1 (.slice no' net'.length nc')) (.inr (fun e => hbg (by simpa [Value.ownBlock] using e)))
  refine ⟨⟨?_, hrow, q1 hn, fun x hx => q2 (h.reps x hx), h.base, Nat.le_trans h.heap hs.size⟩, hs⟩
  exact (heap_setCell_same w g 1 _ _ _ h.box).trans (by simp)
end Go.Proofs.YthnbaijkhhbelaaGreat
