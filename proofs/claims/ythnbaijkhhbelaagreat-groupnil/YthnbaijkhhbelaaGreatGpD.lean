/-
  Contracts: a group as plain data; Propose.
-/
import Derived.Test.YthnbaijkhhbelaaGreatGpC
namespace Go.Proofs.YthnbaijkhhbelaaGreat
open Go.RowKit Num
open scoped Classical
set_option linter.unusedVariables false
set_option maxRecDepth 100000

/-- The members of a group: each a replica, and whether it runs. -/
abbrev Num.Ups := List (Rep × Bool)
def Num.plainG (ms : List Mbr) : Ups := ms.map fun m => (m.r, m.up)
def Num.atG (q : Ups) (i : Int) : Option (Rep × Bool) := if i < 0 then none else q[i.toNat]?
/-- Block g is this group; b the block of its members. -/
def Num.HoldG (B : Nat) (w : World) (g b : Nat) (q : Ups) (net : Msgs) : Prop := ∃ cap no nc ms, GrpAt B w g b cap no nc ms net ∧ plainG ms = q
theorem plain_len (ms : List Mbr) : (plainG ms).length = ms.length := by simp [plainG]
theorem plain_at {ms : List Mbr} {i : Int} {r : Rep} {up : Bool} (h : atG (plainG ms) i = some (r, up)) : ∃ (k : Nat) (s : Sl), i = (k : Int) ∧ ms[k]? = some ⟨r, s, up⟩ := by
  unfold atG at h
  by_cases h0 : i < 0
  · rw [if_pos h0] at h
    cases h
  · rw [if_neg h0] at h
    simp only [plainG, List.getElem?_map, Option.map_eq_some_iff] at h
    obtain ⟨m, h1, h2⟩ := h
    cases h2
    exact ⟨i.toNat, m.s, by omega, h1⟩
theorem plain_none {ms : List Mbr} {i : Int} (h : atG (plainG ms) i = none) : runsG ms i = none := by
  unfold atG at h
  unfold runsG
  by_cases h0 : i < 0
  · rw [if_pos h0]
  · rw [if_neg h0] at h ⊢
    simpa [plainG] using h
theorem runs_at {ms : List Mbr} {k : Nat} {m : Mbr} (h : ms[k]? = some m) : runsG ms (k : Int) = some m := by
  unfold runsG
  rw [if_neg (by omega), Int.toNat_natCast]
  exact h
theorem plain_set (ms : List Mbr) (k : Nat) (m : Mbr) : plainG (ms.set k m) = (plainG ms).set k (m.r, m.up) := by simp [plainG, List.map_set]
theorem Num.HoldG.below {B : Nat} {w w' : World} {g b : Nat} {q : Ups} {net : Msgs} (h : HoldG B w g b q net) (hb : Below w.heap.size w w') : HoldG B w' g b q net := by
  obtain ⟨cap, no, nc, ms, h1, h2⟩ := h
  exact ⟨cap, no, nc, ms, h1.below hb, h2⟩
theorem mem_at {q : Ups} {i : Int} {x : Rep × Bool} (h : atG q i = some x) : x ∈ q := by
  unfold atG at h
  by_cases h0 : i < 0
  · rw [if_pos h0] at h
    cases h
  · rw [if_neg h0] at h
    exact List.mem_of_getElem? h
/-- What becomes of something new. -/
def Num.proG (q : Ups) (net : Msgs) (i time : Int) (d : ByteArray) [∀ q, Decidable (May q)] : (Ups × Msgs) × Int × Int := match atG q i with
  | none => ((q, net), 0, 20)
  | some (r, false) => ((q, net), 0, 19)
  | some (r, true) => if (proR r time d).2.2.2 = 0 then ((q.set i.toNat ((proR r time d).1, true), addM net (proR r time d).2.1), (proR r time d).2.2.1, 0) else ((q, net), (proR r time d).2.2.1, (proR r time d).2.2.2)
/-- A net that is not too great. -/
def Num.NetOk (l : Msgs) : Prop := l.length ≤ 1000 ∧ ∀ x ∈ l, x.log.length ≤ 3000
set_option maxRecDepth 100000 in
set_option maxHeartbeats 1000000 in
theorem gpro_no {gv : Option Addr} {w : World} {i time E : Int} (d : ByteArray) (hE : ¬ E = 0) (hr : Calls Tryz.prog 46 #[.pointer gv, .int .i64 i] w fun e w' => e = .returned (.tuple #[.pointer none, .int .i64 E]) ∧ w' = w) :
    Calls Tryz.prog 21 #[.pointer gv, .int .i64 i, .int .i64 time, .string d] w fun e w' => e = .returned (.tuple #[.int .i64 0, .int .i64 E]) ∧ w' = w := by
  go_enter Tryz.func21, Tryz.ntmps21
  go_wp2_with (first
    | (go_at_call 46; refine hr.mono ?_; rintro e wn ⟨rfl, hq⟩; have hq' := hq.symm; clear hq; subst hq'))
  refine bodyPost_ret (v := .tuple #[.int .i64 0, .int .i64 E]) (by simp [results, Tryz.results21, go_sem]) rfl ⟨rfl, rfl⟩
set_option maxRecDepth 100000 in
set_option maxHeartbeats 1000000 in
theorem gpro_yes {B : Nat} {w : World} {g b cap : Nat} {no : Option Addr} {nc : Nat} {ms : List Mbr} {net : Msgs} (h : GrpAt B w g b cap no nc ms net) (hn : ms.length ≤ 5) {k : Nat} {r : Rep} {s : Sl} (hk : ms[k]? = some ⟨r, s, true⟩) (time : Int) (d : ByteArray) (r' : Rep) (out : Msgs) (P E : Int)
    (hp : ∀ W, LiesR W W.heap.size s r → Calls Tryz.prog 47 #[repV r s, .int .i64 time, .string d] W fun x w' => ∃ s' xo xc, x = .returned (.tuple #[repV r' s', .slice xo out.length xc, .int .i64 P, .int .i64 E]) ∧ RowsS W.heap.size w' r' s' ∧ OwnO W.heap.size w' (.slice xo out.length xc) out ∧ Below W.heap.size W w')
    (hnet : NetOk net) (hout : NetOk out) :
    Calls Tryz.prog 21 #[.pointer (some ⟨g, 0, none⟩), .int .i64 (k : Int), .int .i64 time, .string d] w fun e w' => e = .returned (.tuple #[.int .i64 P, .int .i64 E]) ∧ (E = 0 → ∃ s' no' nc', GrpAt B w' g b cap no' nc' (ms.set k ⟨r', s', true⟩) (addM net out)) ∧ (¬ E = 0 → GrpAt B w' g b cap no nc ms net) ∧ Save g b w w' := by
  have hr := running_any h hn (k : Int)
  unfold runV at hr
  rw [runs_at hk] at hr
  simp only [if_true, Int.toNat_natCast] at hr
  have hpro := hp w (rowsS_lies (h.reps _ (List.mem_of_getElem? hk)))
  have cm := (h.at hk).1
  have c0 : w.cell? ⟨b, k * 14, none⟩ = some (.int .i64 r.id) := cm 0 _ (by omega) rfl
  have c1 : w.cell? ⟨b, k * 14 + 1, none⟩ = some (.int .i64 r.n) := cm 1 _ (by omega) rfl
  have c2 : w.cell? ⟨b, k * 14 + 2, none⟩ = some (.int .i64 r.view) := cm 2 _ (by omega) rfl
  have c3 : w.cell? ⟨b, k * 14 + 3, none⟩ = some (.int .i64 r.normal) := cm 3 _ (by omega) rfl
  have c4 : w.cell? ⟨b, k * 14 + 4, none⟩ = some (.int .i64 r.how) := cm 4 _ (by omega) rfl
  have c5 : w.cell? ⟨b, k * 14 + 5, none⟩ = some (.slice s.lo r.log.length s.lc) := cm 5 _ (by omega) rfl
  have c6 : w.cell? ⟨b, k * 14 + 6, none⟩ = some (.int .i64 r.commit) := cm 6 _ (by omega) rfl
  have c7 : w.cell? ⟨b, k * 14 + 7, none⟩ = some (.slice s.ao r.acked.length s.ac) := cm 7 _ (by omega) rfl
  have c8 : w.cell? ⟨b, k * 14 + 8, none⟩ = some (.slice s.vo r.votes.length s.vc) := cm 8 _ (by omega) rfl
  have c9 : w.cell? ⟨b, k * 14 + 9, none⟩ = some (.slice s.wo r.voters.length s.wc) := cm 9 _ (by omega) rfl
  have c10 : w.cell? ⟨b, k * 14 + 10, none⟩ = some (.slice s.bo r.best.length s.bc) := cm 10 _ (by omega) rfl
  have c11 : w.cell? ⟨b, k * 14 + 11, none⟩ = some (.int .i64 r.bestView) := cm 11 _ (by omega) rfl
  have c12 : w.cell? ⟨b, k * 14 + 12, none⟩ = some (.int .i64 r.bestDone) := cm 12 _ (by omega) rfl
  clear cm hp
  by_cases hE : E = 0
  · subst hE
    have hkeep := fun (w1 : World) (hb : Below w.heap.size w w1) (s' : Sl) (xo : Option Addr) (xc : Nat) (hR : RowsS w.heap.size w1 r' s') (hO : OwnO w.heap.size w1 (.slice xo out.length xc) out) => keep_yes (h.below hb) hk r' s' (rowsS_deep hR h.heap) out xo xc (ownO_deep hO h.heap) hnet.1 hout.1 (fun x hx => by
      rcases List.mem_append.1 hx with hx | hx
      · exact hnet.2 x hx
      · exact hout.2 x hx)
    clear h hk hnet hout hn
    go_enter Tryz.func21, Tryz.ntmps21
    go_wp2_with (first
      | (go_at_call 46; refine hr.mono ?_; rintro e wn ⟨rfl, hq⟩; have hq' := hq.symm; clear hq; subst hq')
      | (go_at_call 47; refine hpro.mono ?_; rintro e w1 ⟨s', xo, xc, rfl, hR, hO, hb⟩)
      | (go_at_call 48; refine (hkeep _ (hb.alloc hb.size _) s' xo xc (hR.below ((Below.refl _ _).alloc (Nat.le_refl _) _)) (ownO_below hO ((Below.refl _ _).alloc (Nat.le_refl _) _))).mono ?_; rintro e w2 ⟨rfl, ⟨no', nc', hG⟩, hs⟩))
    refine bodyPost_ret (v := .tuple #[.int .i64 P, .int .i64 0]) (by simp [results, Tryz.results21, go_sem]) rfl ⟨rfl, fun _ => ⟨s', no', nc', hG⟩, fun h => (h trivial).elim, (Save.of_below (hb.alloc hb.size _) g b).trans hs⟩
  · have hkeep := fun (w1 : World) (s' : Sl) (xo : Option Addr) (xc : Nat) => keep_no (some ⟨g, 0, none⟩) (some ⟨b, k * 14, none⟩) r' s' xo out.length xc E hE w1
    have hG := fun (w1 : World) (hb : Below w.heap.size w w1) => h.below hb
    clear h hk hnet hout hn
    go_enter Tryz.func21, Tryz.ntmps21
    go_wp2_with (first
      | (go_at_call 46; refine hr.mono ?_; rintro e wn ⟨rfl, hq⟩; have hq' := hq.symm; clear hq; subst hq')
      | (go_at_call 47; refine hpro.mono ?_; rintro e w1 ⟨s', xo, xc, rfl, hR, hO, hb⟩)
      | (go_at_call 48; refine (hkeep _ s' xo xc).mono ?_; rintro e w2 ⟨rfl, hb2⟩; have hb3 := below_next (hb.alloc hb.size _) (Nat.le_refl _) hb2))
    refine bodyPost_ret (v := .tuple #[.int .i64 P, .int .i64 E]) (by simp [results, Tryz.results21, go_sem]) rfl ⟨rfl, fun h => absurd h hE, fun _ => hG _ hb3, Save.of_below hb3 g b⟩
end Go.Proofs.YthnbaijkhhbelaaGreat
