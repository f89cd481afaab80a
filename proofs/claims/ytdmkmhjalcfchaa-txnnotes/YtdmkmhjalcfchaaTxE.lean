/-
  Contracts: the store's pairs and a transaction's own writes, merged (merged).
-/
import Derived.Test.YtdmkmhjalcfchaaTxD
import Derived.Deep.QuietTactic
import Derived.BigRegion
import Derived.WalkMore
namespace Go.Proofs.Ytdmkmhjalcfchaa
open Go.RowKit Go.Maps Num
open scoped Classical
set_option linter.unusedVariables false
set_option maxRecDepth 100000

def Num.slen : Value → Nat
  | .slice _ n _ => n
  | _ => 0
theorem mrg_len : ∀ (n : Nat) (ps : List Pr) (xs : List Wrt), ps.length + xs.length ≤ n → (mrg ps xs).length ≤ ps.length + xs.length
  | n, [], [], _ => by rw [mrg_nil]; simp
  | n, p :: ps, [], _ => by rw [mrg_own]; simp
  | 0, [], x :: xs, h => by simp at h
  | n + 1, [], x :: xs, h => by
    rw [mrg_left, List.length_append]
    have := mrg_len n [] xs (by simp at h ⊢; omega)
    have h2 : (tellW x).length ≤ 1 := by unfold tellW; split <;> simp
    simp at this ⊢
    omega
  | 0, p :: ps, x :: xs, h => by simp at h
  | n + 1, p :: ps, x :: xs, h => by
    rcases kl_tri x.key p.key with hk | hk | hk
    · rw [mrg_lt hk, List.length_append]
      have := mrg_len n (p :: ps) xs (by simp at h ⊢; omega)
      have h2 : (tellW x).length ≤ 1 := by unfold tellW; split <;> simp
      simp at this ⊢
      omega
    · rw [mrg_same hk]
      have := mrg_len n ps (x :: xs) (by simp at h ⊢; omega)
      simp at this ⊢
      omega
    · rw [mrg_gt hk]
      have := mrg_len n ps (x :: xs) (by simp at h ⊢; omega)
      simp at this ⊢
      omega
theorem lies_head {α : Type} {At : World → Addr → α → Prop} {sz : Nat} {w : World} {B : Nat} {ao : Option Addr} {x : α} {l : List α} (h : LiesG At sz w B ao (x :: l)) : ∃ a, ao = some a ∧ a.block < B ∧ At w a x := by
  obtain ⟨a, e, hb, hx⟩ := h 0 x rfl
  rw [Nat.zero_mul, addr_zero] at hx
  exact ⟨a, e, hb, hx⟩
theorem lies_tail {α : Type} {At : World → Addr → α → Prop} {sz : Nat} {w : World} {B : Nat} {a : Addr} {x : α} {l : List α} (h : LiesG At sz w B (some a) (x :: l)) : LiesG At sz w B (some (a.add sz)) l := by
  intro i y hy
  obtain ⟨b, e, hb, hx⟩ := h (i + 1) y hy
  cases e
  refine ⟨_, rfl, by rw [Addr.block_add]; exact hb, ?_⟩
  rw [addr_add_add]
  rw [show sz + i * sz = (i + 1) * sz by rw [Nat.add_mul, Nat.one_mul, Nat.add_comm]]
  exact hx
theorem lies_no {α : Type} {At : World → Addr → α → Prop} {sz : Nat} {w : World} {B : Nat} {ao : Option Addr} : LiesG At sz w B ao ([] : List α) := fun i x hx => by simp at hx
/-- How far the merging is. -/
structure Num.MrS (w : World) (whole : List Pr) (n : Int) (ps : List Pr) (xs : List Wrt) (acc : List Pr) (P M : Nat) (po xo : Option Addr) (pc xc : Nat) : Prop where
  pl : ps.length = P
  xl : xs.length = M
  pcap : P ≤ pc
  xcap : M ≤ xc
  plie : LiesPr w w.heap.size po ps
  xlie : LiesW w w.heap.size xo xs
  all : acc ++ mrg ps xs = whole
  len : acc = [] ∨ (acc.length : Int) ≤ n
theorem mrs_end {w : World} {whole : List Pr} {n : Int} {ps : List Pr} {xs : List Wrt} {acc : List Pr} {P M : Nat} {po xo : Option Addr} {pc xc : Nat} (h : MrS w whole n ps xs acc P M po xo pc xc) (hn : n ≤ (acc.length : Int)) : whole.take n.toNat = acc := by
  rw [← h.all]
  exact take_all h.len hn
theorem mrs_stop {w : World} {whole : List Pr} {n : Int} {acc : List Pr} {P M : Nat} {po xo : Option Addr} {pc xc : Nat} (h : MrS w whole n [] [] acc P M po xo pc xc) : whole.take n.toNat = acc := by
  rw [← h.all, mrg_nil, List.append_nil]
  exact take_few h.len
theorem mrs_take {w : World} {whole : List Pr} {n : Int} {p : Pr} {ps : List Pr} {xs : List Wrt} {acc : List Pr} {P M : Nat} {po xo : Option Addr} {pc xc : Nat} (h : MrS w whole n (p :: ps) xs acc P M po xo pc xc) (hn : (acc.length : Int) < n) (hm : mrg (p :: ps) xs = p :: mrg ps xs) {po' : Option Addr} (hl : LiesPr w w.heap.size po' ps) : MrS w whole n ps xs (acc ++ [p]) (P - 1) M po' xo (pc - 1) xc :=
  ⟨by rw [← h.pl]; simp, h.xl, by have := h.pcap; omega, h.xcap, hl, h.xlie, by rw [← h.all, hm]; simp, .inr (by simp; omega)⟩
theorem mrs_skip {w : World} {whole : List Pr} {n : Int} {p : Pr} {ps : List Pr} {xs : List Wrt} {acc : List Pr} {P M : Nat} {po xo : Option Addr} {pc xc : Nat} (h : MrS w whole n (p :: ps) xs acc P M po xo pc xc) (hm : mrg (p :: ps) xs = mrg ps xs) {po' : Option Addr} (hl : LiesPr w w.heap.size po' ps) : MrS w whole n ps xs acc (P - 1) M po' xo (pc - 1) xc :=
  ⟨by rw [← h.pl]; simp, h.xl, by have := h.pcap; omega, h.xcap, hl, h.xlie, by rw [← h.all, hm], h.len⟩
theorem mrs_own {w : World} {whole : List Pr} {n : Int} {x : Wrt} {ps : List Pr} {xs : List Wrt} {acc : List Pr} {P M : Nat} {po xo : Option Addr} {pc xc : Nat} (h : MrS w whole n ps (x :: xs) acc P M po xo pc xc) (hn : (acc.length : Int) < n) (hm : mrg ps (x :: xs) = tellW x ++ mrg ps xs) {xo' : Option Addr} (hl : LiesW w w.heap.size xo' xs) : MrS w whole n ps xs (acc ++ tellW x) P (M - 1) po xo' pc (xc - 1) :=
  ⟨h.pl, by rw [← h.xl]; simp, h.pcap, by have := h.xcap; omega, h.plie, hl, by rw [← h.all, hm]; simp, .inr (by
    have : (tellW x).length ≤ 1 := by unfold tellW; split <;> simp
    rw [List.length_append]
    omega)⟩
theorem run_app1 {S E sz bytes : Nat} {z : Value} (hS : Try.prog.underlying S = some (.slice E)) (hinfo : (Try.prog.info? E).map (fun i => (i.zero, i.size, i.bytes)) = some (some z, sz, bytes)) (hz : 0 < sz ∧ bytes ≤ 1000 ∧ z.cells.size = sz) (w : World) (ty : TypeId) (base : Nat) (v : Value) (n : Nat) (xs : List Value) (hown : w.ownsRow base E sz v n xs) (b : Nat) (cs : List Value) (hb : w.heap[b]? = some (.cells cs.toArray E (0, 0))) (hl : cs.length = sz) (h1 : ∀ u ∈ cs, u.oneCell' = true) (hn : n ≤ 100000) (hbase : base ≤ w.heap.size) :
    ∃ v' w', (Builtin.append_ #[S, S] ty #[v, .slice (some ⟨b, 0, none⟩) 1 1]).run Try.prog w = .ok v' w' ∧ w'.ownsRow base E sz v' (n + 1) (xs ++ cs) ∧ w.grownBy w' v.ownBlock ∧ Near w v v' ∧ Below base w w' := by
  obtain ⟨i0, hi, hz0, hz1, hz2⟩ := info_parts hinfo
  have hm : (n + 1) * bytes ≤ 100001 * 1000 := Nat.mul_le_mul (by omega) hz.2.1
  obtain ⟨v', w', hr, h2, h3, _, h5⟩ := run_append_own_at (P := Try.prog) w base S ty E i0 _ sz bytes hS hi hz0 hz1 hz2 hz.2.2 hz.1 v _ _ hown ⟨b, 0, none⟩ 1 1 cs (by omega) (fun j u hj => by
    rw [Addr.add_lit, Nat.zero_add]
    exact box_cell hb j u (by simpa using hj)) h1 (by unfold maxLen; omega) (by omega) hbase
  refine ⟨v', w', hr, h2, h3, ?_, Below.grown (Below.refl base w) h3 hbase (fun k hk => (hown.lt k hk).1)⟩
  rcases h5 with h5 | h5
  · exact .inl h5
  · exact .inr ⟨_, h5, Nat.le_refl _⟩
set_option maxRecDepth 100000 in
set_option maxHeartbeats 4000000 in
theorem merged_any (ps0 : List Pr) (xs0 : List Wrt) (po0 xo0 : Option Addr) (pc0 xc0 : Nat) (n : Int) (hps : ps0.length ≤ 500) (hxs : xs0.length ≤ 1000) (hpc : ps0.length ≤ pc0) (hxc : xs0.length ≤ xc0) (w : World) (hp0 : LiesPr w w.heap.size po0 ps0) (hx0 : LiesW w w.heap.size xo0 xs0) :
    Calls Try.prog 40 #[.slice po0 ps0.length pc0, .slice xo0 xs0.length xc0, .int .i64 n] w fun e w' => ∃ ao cap, e = .returned (.slice ao ((mrg ps0 xs0).take n.toNat).length cap) ∧ w'.ownsRow w.heap.size 52 2 (.slice ao ((mrg ps0 xs0).take n.toNat).length cap) ((mrg ps0 xs0).take n.toNat).length (prCells ((mrg ps0 xs0).take n.toNat)) ∧ Below w.heap.size w w' := by
  have HS0 : Hid (MrS w (mrg ps0 xs0) n ps0 xs0 [] ps0.length xs0.length po0 xo0 pc0 xc0) := ⟨rfl, rfl, hpc, hxc, hp0, hx0, rfl, .inl rfl⟩
  have HLEN : Hid ((mrg ps0 xs0).length ≤ 1500) := by
    have := mrg_len _ ps0 xs0 (Nat.le_refl _)
    show (mrg ps0 xs0).length ≤ 1500
    omega
  clear hpc hxc hp0 hx0
  generalize mrg ps0 xs0 = whole at *
  obtain ⟨out, hout⟩ : ∃ out, whole.take n.toNat = out := ⟨_, rfl⟩
  have HOUT : Hid (whole.take n.toNat = out) := hout
  rw [hout]
  clear hout
  have hpr := Try.infoPr
  go_enter Try.func40, Try.ntmps40
  go_wp2
  go_step3
  go_wp2
  go_step3
  go_wp2
  go_loopw [0, 1, 7] (fun th ow v wr => ∃ (ps : List Pr) (xs : List Wrt) (acc : List Pr) (P M pc xc : Nat) (po xo : Option Addr), th = .slice po P pc ∧ ow = .slice xo M xc ∧ wr.ownsRow w.heap.size 52 2 v acc.length (prCells acc) ∧ Below w.heap.size w wr ∧ Hid (MrS w whole n ps xs acc P M po xo pc xc)) (fun th ow _ _ => slen th + slen ow)
  case atStart => exact ⟨ps0, xs0, [], _, _, _, _, _, _, rfl, rfl, World.ownsRow_nil _ _ _ _, Below.refl _ _, HS0.out⟩
  case round =>
    obtain ⟨ps, xs, acc, P, M, pc, xc, po, xo, rfl, rfl, hown, hbel, HS⟩ := hrel
    have hsz := hbel.size
    have hacc : acc.length ≤ 1500 := by
      have h1 := HS.out.all
      have h2 := HLEN.out
      rw [← h1, List.length_append] at h2
      omega
    clear HS0 hps hxs
    obtain ⟨ao3, cap3, rfl, _, _⟩ := own_lies hown
    by_cases hn : n ≤ (acc.length : Int)
    · obtain rfl : acc = out := (mrs_end HS.out hn).symm.trans HOUT.out
      clear HS HOUT HLEN
      go_wp2
      try rw [Exit.noGoto_ret]
      go_ret
      exact ⟨ao3, cap3, rfl, hown, hbel⟩
    · have hn2 : (acc.length : Int) < n := by omega
      cases xs with
      | nil =>
        obtain rfl : M = 0 := HS.out.xl.symm
        cases ps with
        | nil =>
          obtain rfl : P = 0 := HS.out.pl.symm
          obtain rfl : acc = out := (mrs_stop HS.out).symm.trans HOUT.out
          clear HS HOUT HLEN
          go_wp2
          go_quiet (fail)
          have hb1 := below_drewN hbel nq
          have ho1 := own_below hown (below_drewN (Below.refl _ wr) nq)
          clear hbel hown 
          generalize wr.drewN nq = X1 at *
          clear nq
          have hsz_X1 := hb1.size
          go_wp2
          go_quiet (fail)
          have hb2 := below_drewN hb1 nq
          have ho2 := own_below ho1 (below_drewN (Below.refl _ X1) nq)
          clear hb1 ho1 
          generalize X1.drewN nq = X2 at *
          clear nq
          have hsz_X2 := hb2.size
          go_wp2
          try rw [Exit.noGoto_ret]
          go_ret
          exact ⟨ao3, cap3, rfl, ho2, hb2⟩
        | cons p ps =>
          obtain ⟨a, rfl, hab, p0w, p1w⟩ := lies_head HS.out.plie
          have p1w : w.cell? ⟨a.block, a.off + 1, none⟩ = some (.string p.val) := p1w
          have hP : 0 < P := by rw [← HS.out.pl]; exact Nat.succ_pos _
          have hP0 : (0 : Int) < (P : Int) := by omega
          have hP1 : (1 : Int) ≤ (P : Int) := by omega
          have hPn : ¬ (P : Int) = 0 := by omega
          have hPe : ((P : Int) == 0) = false := by simpa using hPn
          have hPf : (P == 0) = false := by simp; omega
          have hPg : ¬ P = 0 := by omega
          have hPc : P ≤ pc := HS.out.pcap
          have p0 := (hbel.cell hab).trans p0w
          have p1 : wr.cell? ⟨a.block, a.off + 1, none⟩ = some (.string p.val) := (hbel.cell (p := ⟨a.block, a.off + 1, none⟩) hab).trans p1w
          clear HOUT HLEN
          by_cases hpc : pc = 1
          · obtain rfl : P = 1 := by omega
            subst hpc
            obtain rfl : ps = [] := by have := HS.out.pl; simpa using this
            have HT : Hid (MrS w whole n [] [] (acc ++ [p]) 0 0 (some a) xo 0 xc) := mrs_take HS.out hn2 (by rw [mrg_own, mrg_own]) lies_no
            clear HS
            go_wp2
            go_quiet (fail)
            have hb1 := below_drewN hbel nq
            have ho1 := own_below hown (below_drewN (Below.refl _ wr) nq)
            clear hbel hown p0 p1
            generalize wr.drewN nq = X1 at *
            clear nq
            have hsz_X1 := hb1.size
            have p0 := (hb1.cell hab).trans p0w
            have p1 : X1.cell? ⟨a.block, a.off + 1, none⟩ = some (.string p.val) := (hb1.cell (p := ⟨a.block, a.off + 1, none⟩) hab).trans p1w
            go_wp2
            go_quiet (fail)
            have hb2 := below_drewN hb1 nq
            have ho2 := own_below ho1 (below_drewN (Below.refl _ X1) nq)
            clear hb1 ho1 p0 p1
            generalize X1.drewN nq = X2 at *
            clear nq
            have hsz_X2 := hb2.size
            have p0 := (hb2.cell hab).trans p0w
            have p1 : X2.cell? ⟨a.block, a.off + 1, none⟩ = some (.string p.val) := (hb2.cell (p := ⟨a.block, a.off + 1, none⟩) hab).trans p1w
            go_wp2_with (first
              | (at_builtin; refine wpList_appX _ rfl _ _ 22 rfl 52 2 32 Try.underlying22 Try.infoPr w.heap.size _ acc.length (prCells acc) rfl (ho2.alloc _) ⟨X2.heap.size, 0, none⟩ 1 [.string p.key, .string p.val] rfl rfl (one2 p) (new_cells _ _ [.string p.key, .string p.val] _ rfl) ⟨by omega, by decide, by decide, rfl⟩ (by simp; omega) ?_; intro v3 w3 hown3 hbel3 hst3))
            go_roundw
            case rel => exact ⟨[], [], acc ++ [p], 0, _, _, _, _, _, rfl, rfl, by rw [List.length_append, prCells_append]; exact hown3, ((hb2.alloc (Nat.le_of_lt_succ (by simp; omega)) _).trans hbel3), HT.out⟩
            case measure => simp [slen]; try omega
          · have HT : Hid (MrS w whole n ps [] (acc ++ [p]) (P - 1) 0 (some (a.add 2)) xo (pc - 1) xc) := mrs_take HS.out hn2 (by rw [mrg_own, mrg_own]) (lies_tail HS.out.plie)
            clear HS
            go_wp2
            go_quiet (fail)
            have hb1 := below_drewN hbel nq
            have ho1 := own_below hown (below_drewN (Below.refl _ wr) nq)
            clear hbel hown p0 p1
            generalize wr.drewN nq = X1 at *
            clear nq
            have hsz_X1 := hb1.size
            have p0 := (hb1.cell hab).trans p0w
            have p1 : X1.cell? ⟨a.block, a.off + 1, none⟩ = some (.string p.val) := (hb1.cell (p := ⟨a.block, a.off + 1, none⟩) hab).trans p1w
            go_wp2
            go_quiet (fail)
            have hb2 := below_drewN hb1 nq
            have ho2 := own_below ho1 (below_drewN (Below.refl _ X1) nq)
            clear hb1 ho1 p0 p1
            generalize X1.drewN nq = X2 at *
            clear nq
            have hsz_X2 := hb2.size
            have p0 := (hb2.cell hab).trans p0w
            have p1 : X2.cell? ⟨a.block, a.off + 1, none⟩ = some (.string p.val) := (hb2.cell (p := ⟨a.block, a.off + 1, none⟩) hab).trans p1w
            go_wp2_with (first
              | (at_builtin; refine wpList_appX _ rfl _ _ 22 rfl 52 2 32 Try.underlying22 Try.infoPr w.heap.size _ acc.length (prCells acc) rfl (ho2.alloc _) ⟨X2.heap.size, 0, none⟩ 1 [.string p.key, .string p.val] rfl rfl (one2 p) (new_cells _ _ [.string p.key, .string p.val] _ rfl) ⟨by omega, by decide, by decide, rfl⟩ (by simp; omega) ?_; intro v3 w3 hown3 hbel3 hst3))
            go_roundw
            case rel => exact ⟨ps, [], acc ++ [p], P - 1, _, _, _, _, _, rfl, rfl, by rw [List.length_append, prCells_append]; exact hown3, ((hb2.alloc (Nat.le_of_lt_succ (by simp; omega)) _).trans hbel3), HT.out⟩
            case measure => simp [slen]; try omega
      | cons x xs =>
        obtain ⟨b, rfl, hbb, x0w, x1w, x2w⟩ := lies_head HS.out.xlie
        have x1w : w.cell? ⟨b.block, b.off + 1, none⟩ = some (.string x.val) := x1w
        have x2w : w.cell? ⟨b.block, b.off + 2, none⟩ = some (.bool x.del) := x2w
        have hM : 0 < M := by rw [← HS.out.xl]; exact Nat.succ_pos _
        have hM0 : (0 : Int) < (M : Int) := by omega
        have hM1 : (1 : Int) ≤ (M : Int) := by omega
        have hMn : ¬ (M : Int) = 0 := by omega
        have hMc : M ≤ xc := HS.out.xcap
        cases ps with
        | nil =>
          obtain rfl : P = 0 := HS.out.pl.symm
          cases hdel : x.del with
          | true =>
            have htw : tellW x = [] := by unfold tellW; rw [if_pos hdel]
            have x0 := (hbel.cell hbb).trans x0w
            have x1 : wr.cell? ⟨b.block, b.off + 1, none⟩ = some (.string x.val) := (hbel.cell (p := ⟨b.block, b.off + 1, none⟩) hbb).trans x1w
            have x2 : wr.cell? ⟨b.block, b.off + 2, none⟩ = some (.bool x.del) := (hbel.cell (p := ⟨b.block, b.off + 2, none⟩) hbb).trans x2w
            rw [hdel] at x2 x2w
            clear HOUT HLEN
            by_cases hxc : xc = 1
            · obtain rfl : M = 1 := by omega
              subst hxc
              obtain rfl : xs = [] := by have := HS.out.xl; simpa using this
              have HT : Hid (MrS w whole n [] [] acc 0 0 po (some b) pc 0) := by
                have h := mrs_own HS.out hn2 (mrg_left x []) (lies_no (ao := some b))
                rw [htw, List.append_nil] at h
                exact h
              clear HS htw hdel
              go_wp2
              go_quiet (fail)
              have hb1 := below_drewN hbel nq
              have ho1 := own_below hown (below_drewN (Below.refl _ wr) nq)
              clear hbel hown x0 x1 x2
              generalize wr.drewN nq = X1 at *
              clear nq
              have hsz_X1 := hb1.size
              have x0 := (hb1.cell hbb).trans x0w
              have x1 : X1.cell? ⟨b.block, b.off + 1, none⟩ = some (.string x.val) := (hb1.cell (p := ⟨b.block, b.off + 1, none⟩) hbb).trans x1w
              have x2 : X1.cell? ⟨b.block, b.off + 2, none⟩ = some (.bool true) := (hb1.cell (p := ⟨b.block, b.off + 2, none⟩) hbb).trans x2w
              go_wp2
              go_quiet (fail)
              have hb2 := below_drewN hb1 nq
              have ho2 := own_below ho1 (below_drewN (Below.refl _ X1) nq)
              clear hb1 ho1 x0 x1 x2
              generalize X1.drewN nq = X2 at *
              clear nq
              have hsz_X2 := hb2.size
              have x0 := (hb2.cell hbb).trans x0w
              have x1 : X2.cell? ⟨b.block, b.off + 1, none⟩ = some (.string x.val) := (hb2.cell (p := ⟨b.block, b.off + 1, none⟩) hbb).trans x1w
              have x2 : X2.cell? ⟨b.block, b.off + 2, none⟩ = some (.bool true) := (hb2.cell (p := ⟨b.block, b.off + 2, none⟩) hbb).trans x2w
              go_wp2
              go_roundw
              case rel => exact ⟨[], [], acc, 0, 0, _, _, _, _, rfl, rfl, ho2, hb2, HT.out⟩
              case measure => simp [slen]; try omega
            · have HT : Hid (MrS w whole n [] xs acc 0 (M - 1) po (some (b.add 3)) pc (xc - 1)) := by
                have h := mrs_own HS.out hn2 (mrg_left x xs) (lies_tail HS.out.xlie)
                rw [htw, List.append_nil] at h
                exact h
              clear HS htw hdel
              go_wp2
              go_quiet (fail)
              have hb1 := below_drewN hbel nq
              have ho1 := own_below hown (below_drewN (Below.refl _ wr) nq)
              clear hbel hown x0 x1 x2
              generalize wr.drewN nq = X1 at *
              clear nq
              have hsz_X1 := hb1.size
              have x0 := (hb1.cell hbb).trans x0w
              have x1 : X1.cell? ⟨b.block, b.off + 1, none⟩ = some (.string x.val) := (hb1.cell (p := ⟨b.block, b.off + 1, none⟩) hbb).trans x1w
              have x2 : X1.cell? ⟨b.block, b.off + 2, none⟩ = some (.bool true) := (hb1.cell (p := ⟨b.block, b.off + 2, none⟩) hbb).trans x2w
              go_wp2
              go_quiet (fail)
              have hb2 := below_drewN hb1 nq
              have ho2 := own_below ho1 (below_drewN (Below.refl _ X1) nq)
              clear hb1 ho1 x0 x1 x2
              generalize X1.drewN nq = X2 at *
              clear nq
              have hsz_X2 := hb2.size
              have x0 := (hb2.cell hbb).trans x0w
              have x1 : X2.cell? ⟨b.block, b.off + 1, none⟩ = some (.string x.val) := (hb2.cell (p := ⟨b.block, b.off + 1, none⟩) hbb).trans x1w
              have x2 : X2.cell? ⟨b.block, b.off + 2, none⟩ = some (.bool true) := (hb2.cell (p := ⟨b.block, b.off + 2, none⟩) hbb).trans x2w
              go_wp2
              go_roundw
              case rel => exact ⟨[], xs, acc, 0, M - 1, _, _, _, _, rfl, rfl, ho2, hb2, HT.out⟩
              case measure => simp [slen]; try omega
          | false =>
            have htw : tellW x = [⟨x.key, x.val⟩] := by unfold tellW; rw [if_neg (by rw [hdel]; simp)]
            have x0 := (hbel.cell hbb).trans x0w
            have x1 : wr.cell? ⟨b.block, b.off + 1, none⟩ = some (.string x.val) := (hbel.cell (p := ⟨b.block, b.off + 1, none⟩) hbb).trans x1w
            have x2 : wr.cell? ⟨b.block, b.off + 2, none⟩ = some (.bool x.del) := (hbel.cell (p := ⟨b.block, b.off + 2, none⟩) hbb).trans x2w
            rw [hdel] at x2 x2w
            clear HOUT HLEN
            by_cases hxc : xc = 1
            · obtain rfl : M = 1 := by omega
              subst hxc
              obtain rfl : xs = [] := by have := HS.out.xl; simpa using this
              have HT : Hid (MrS w whole n [] [] (acc ++ [⟨x.key, x.val⟩]) 0 0 po (some b) pc 0) := by
                have h := mrs_own HS.out hn2 (mrg_left x []) (lies_no (ao := some b))
                rw [htw] at h
                exact h
              clear HS htw hdel
              go_wp2
              go_quiet (fail)
              have hb1 := below_drewN hbel nq
              have ho1 := own_below hown (below_drewN (Below.refl _ wr) nq)
              clear hbel hown x0 x1 x2
              generalize wr.drewN nq = X1 at *
              clear nq
              have hsz_X1 := hb1.size
              have x0 := (hb1.cell hbb).trans x0w
              have x1 : X1.cell? ⟨b.block, b.off + 1, none⟩ = some (.string x.val) := (hb1.cell (p := ⟨b.block, b.off + 1, none⟩) hbb).trans x1w
              have x2 : X1.cell? ⟨b.block, b.off + 2, none⟩ = some (.bool false) := (hb1.cell (p := ⟨b.block, b.off + 2, none⟩) hbb).trans x2w
              go_wp2
              go_quiet (fail)
              have hb2 := below_drewN hb1 nq
              have ho2 := own_below ho1 (below_drewN (Below.refl _ X1) nq)
              clear hb1 ho1 x0 x1 x2
              generalize X1.drewN nq = X2 at *
              clear nq
              have hsz_X2 := hb2.size
              have x0 := (hb2.cell hbb).trans x0w
              have x1 : X2.cell? ⟨b.block, b.off + 1, none⟩ = some (.string x.val) := (hb2.cell (p := ⟨b.block, b.off + 1, none⟩) hbb).trans x1w
              have x2 : X2.cell? ⟨b.block, b.off + 2, none⟩ = some (.bool false) := (hb2.cell (p := ⟨b.block, b.off + 2, none⟩) hbb).trans x2w
              obtain ⟨v3, w3, hr3, hown3, _, _, hbel3⟩ := run_app1 Try.underlying22 Try.infoPr ⟨by decide, by decide, rfl⟩ (X2.alloc (.cells #[.string x.key, .string x.val] 52)).drew 22 w.heap.size (.slice ao3 acc.length cap3) acc.length (prCells acc) (ho2.alloc _).drew X2.heap.size [.string x.key, .string x.val] (heap_new X2 _) rfl (one2 ⟨x.key, x.val⟩) (by omega) (by simp; omega)
              have hb3 : Below w.heap.size w w3 := (hb2.alloc (by omega) _).trans ((Below.refl _ _).drew.trans hbel3)
              clear hbel3
              go_wp2_with fail
              go_region_law (first
                | (refine step_app_run rfl (.tmp 59) (.tmp 69) 22 rfl (.slice ao3 acc.length cap3) (.slice (some ⟨X2.heap.size, 0, none⟩) 1 1) (by simp [Act.eval]) (by simp [Act.eval]) hr3 ?_))
              all_goals go_wp2
              all_goals go_roundw
              all_goals first
                | exact ⟨[], [], acc ++ [(⟨x.key, x.val⟩ : Pr)], 0, 0, _, _, _, _, rfl, rfl, by rw [List.length_append, prCells_append]; exact hown3, hb3, HT.out⟩
                | (simp [slen]; done)
                | (simp [slen]; omega)
            · have HT : Hid (MrS w whole n [] xs (acc ++ [⟨x.key, x.val⟩]) 0 (M - 1) po (some (b.add 3)) pc (xc - 1)) := by
                have h := mrs_own HS.out hn2 (mrg_left x xs) (lies_tail HS.out.xlie)
                rw [htw] at h
                exact h
              clear HS htw hdel
              go_wp2
              go_quiet (fail)
              have hb1 := below_drewN hbel nq
              have ho1 := own_below hown (below_drewN (Below.refl _ wr) nq)
              clear hbel hown x0 x1 x2
              generalize wr.drewN nq = X1 at *
              clear nq
              have hsz_X1 := hb1.size
              have x0 := (hb1.cell hbb).trans x0w
              have x1 : X1.cell? ⟨b.block, b.off + 1, none⟩ = some (.string x.val) := (hb1.cell (p := ⟨b.block, b.off + 1, none⟩) hbb).trans x1w
              have x2 : X1.cell? ⟨b.block, b.off + 2, none⟩ = some (.bool false) := (hb1.cell (p := ⟨b.block, b.off + 2, none⟩) hbb).trans x2w
              go_wp2
              go_quiet (fail)
              have hb2 := below_drewN hb1 nq
              have ho2 := own_below ho1 (below_drewN (Below.refl _ X1) nq)
              clear hb1 ho1 x0 x1 x2
              generalize X1.drewN nq = X2 at *
              clear nq
              have hsz_X2 := hb2.size
              have x0 := (hb2.cell hbb).trans x0w
              have x1 : X2.cell? ⟨b.block, b.off + 1, none⟩ = some (.string x.val) := (hb2.cell (p := ⟨b.block, b.off + 1, none⟩) hbb).trans x1w
              have x2 : X2.cell? ⟨b.block, b.off + 2, none⟩ = some (.bool false) := (hb2.cell (p := ⟨b.block, b.off + 2, none⟩) hbb).trans x2w
              obtain ⟨v3, w3, hr3, hown3, _, _, hbel3⟩ := run_app1 Try.underlying22 Try.infoPr ⟨by decide, by decide, rfl⟩ (X2.alloc (.cells #[.string x.key, .string x.val] 52)).drew 22 w.heap.size (.slice ao3 acc.length cap3) acc.length (prCells acc) (ho2.alloc _).drew X2.heap.size [.string x.key, .string x.val] (heap_new X2 _) rfl (one2 ⟨x.key, x.val⟩) (by omega) (by simp; omega)
              have hb3 : Below w.heap.size w w3 := (hb2.alloc (by omega) _).trans ((Below.refl _ _).drew.trans hbel3)
              clear hbel3
              go_wp2_with fail
              go_region_law (first
                | (refine step_app_run rfl (.tmp 59) (.tmp 69) 22 rfl (.slice ao3 acc.length cap3) (.slice (some ⟨X2.heap.size, 0, none⟩) 1 1) (by simp [Act.eval]) (by simp [Act.eval]) hr3 ?_))
              all_goals go_wp2
              all_goals go_roundw
              all_goals first
                | exact ⟨[], xs, acc ++ [(⟨x.key, x.val⟩ : Pr)], 0, M - 1, _, _, _, _, rfl, rfl, by rw [List.length_append, prCells_append]; exact hown3, hb3, HT.out⟩
                | (simp [slen]; done)
                | (simp [slen]; omega)
        | cons p ps =>
          obtain ⟨a, rfl, hab, p0w, p1w⟩ := lies_head HS.out.plie
          have p1w : w.cell? ⟨a.block, a.off + 1, none⟩ = some (.string p.val) := p1w
          have hP : 0 < P := by rw [← HS.out.pl]; exact Nat.succ_pos _
          have hP0 : (0 : Int) < (P : Int) := by omega
          have hP1 : (1 : Int) ≤ (P : Int) := by omega
          have hPn : ¬ (P : Int) = 0 := by omega
          have hPe : ((P : Int) == 0) = false := by simpa using hPn
          have hPf : (P == 0) = false := by simp; omega
          have hPg : ¬ P = 0 := by omega
          have hPc : P ≤ pc := HS.out.pcap
          rcases kl_tri x.key p.key with hk | hk | hk
          · have hlt : Op.bytesLess x.key.toList p.key.toList = true := hk
            have heq : (x.key.toList == p.key.toList) = false := key_ne (kl_ne hk)
            have HK : Hid (kl x.key p.key) := hk
            clear hk
            cases hdel : x.del with
            | true =>
              have htw : tellW x = [] := by unfold tellW; rw [if_pos hdel]
              have p0 := (hbel.cell hab).trans p0w
              have p1 : wr.cell? ⟨a.block, a.off + 1, none⟩ = some (.string p.val) := (hbel.cell (p := ⟨a.block, a.off + 1, none⟩) hab).trans p1w
              have x0 := (hbel.cell hbb).trans x0w
              have x1 : wr.cell? ⟨b.block, b.off + 1, none⟩ = some (.string x.val) := (hbel.cell (p := ⟨b.block, b.off + 1, none⟩) hbb).trans x1w
              have x2 : wr.cell? ⟨b.block, b.off + 2, none⟩ = some (.bool x.del) := (hbel.cell (p := ⟨b.block, b.off + 2, none⟩) hbb).trans x2w
              rw [hdel] at x2 x2w
              clear HOUT HLEN
              by_cases hxc : xc = 1
              · obtain rfl : M = 1 := by omega
                subst hxc
                obtain rfl : xs = [] := by have := HS.out.xl; simpa using this
                have HT : Hid (MrS w whole n (p :: ps) [] acc P 0 (some a) (some b) pc 0) := by
                  have h := mrs_own HS.out hn2 (mrg_lt HK.out) (lies_no (ao := some b))
                  rw [htw, List.append_nil] at h
                  exact h
                clear HS htw hdel HK
                go_wp2
                go_quiet (fail)
                have hb1 := below_drewN hbel nq
                have ho1 := own_below hown (below_drewN (Below.refl _ wr) nq)
                clear hbel hown p0 p1 x0 x1 x2
                generalize wr.drewN nq = X1 at *
                clear nq
                have hsz_X1 := hb1.size
                have p0 := (hb1.cell hab).trans p0w
                have p1 : X1.cell? ⟨a.block, a.off + 1, none⟩ = some (.string p.val) := (hb1.cell (p := ⟨a.block, a.off + 1, none⟩) hab).trans p1w
                have x0 := (hb1.cell hbb).trans x0w
                have x1 : X1.cell? ⟨b.block, b.off + 1, none⟩ = some (.string x.val) := (hb1.cell (p := ⟨b.block, b.off + 1, none⟩) hbb).trans x1w
                have x2 : X1.cell? ⟨b.block, b.off + 2, none⟩ = some (.bool true) := (hb1.cell (p := ⟨b.block, b.off + 2, none⟩) hbb).trans x2w
                go_wp2
                go_quiet (fail)
                have hb2 := below_drewN hb1 nq
                have ho2 := own_below ho1 (below_drewN (Below.refl _ X1) nq)
                clear hb1 ho1 p0 p1 x0 x1 x2
                generalize X1.drewN nq = X2 at *
                clear nq
                have hsz_X2 := hb2.size
                have p0 := (hb2.cell hab).trans p0w
                have p1 : X2.cell? ⟨a.block, a.off + 1, none⟩ = some (.string p.val) := (hb2.cell (p := ⟨a.block, a.off + 1, none⟩) hab).trans p1w
                have x0 := (hb2.cell hbb).trans x0w
                have x1 : X2.cell? ⟨b.block, b.off + 1, none⟩ = some (.string x.val) := (hb2.cell (p := ⟨b.block, b.off + 1, none⟩) hbb).trans x1w
                have x2 : X2.cell? ⟨b.block, b.off + 2, none⟩ = some (.bool true) := (hb2.cell (p := ⟨b.block, b.off + 2, none⟩) hbb).trans x2w
                go_wp2
                go_roundw
                case rel => exact ⟨(p :: ps), [], acc, P, 0, _, _, _, _, rfl, rfl, ho2, hb2, HT.out⟩
                case measure => simp [slen]; try omega
              · have HT : Hid (MrS w whole n (p :: ps) xs acc P (M - 1) (some a) (some (b.add 3)) pc (xc - 1)) := by
                  have h := mrs_own HS.out hn2 (mrg_lt HK.out) (lies_tail HS.out.xlie)
                  rw [htw, List.append_nil] at h
                  exact h
                clear HS htw hdel HK
                go_wp2
                go_quiet (fail)
                have hb1 := below_drewN hbel nq
                have ho1 := own_below hown (below_drewN (Below.refl _ wr) nq)
                clear hbel hown p0 p1 x0 x1 x2
                generalize wr.drewN nq = X1 at *
                clear nq
                have hsz_X1 := hb1.size
                have p0 := (hb1.cell hab).trans p0w
                have p1 : X1.cell? ⟨a.block, a.off + 1, none⟩ = some (.string p.val) := (hb1.cell (p := ⟨a.block, a.off + 1, none⟩) hab).trans p1w
                have x0 := (hb1.cell hbb).trans x0w
                have x1 : X1.cell? ⟨b.block, b.off + 1, none⟩ = some (.string x.val) := (hb1.cell (p := ⟨b.block, b.off + 1, none⟩) hbb).trans x1w
                have x2 : X1.cell? ⟨b.block, b.off + 2, none⟩ = some (.bool true) := (hb1.cell (p := ⟨b.block, b.off + 2, none⟩) hbb).trans x2w
                go_wp2
                go_quiet (fail)
                have hb2 := below_drewN hb1 nq
                have ho2 := own_below ho1 (below_drewN (Below.refl _ X1) nq)
                clear hb1 ho1 p0 p1 x0 x1 x2
                generalize X1.drewN nq = X2 at *
                clear nq
                have hsz_X2 := hb2.size
                have p0 := (hb2.cell hab).trans p0w
                have p1 : X2.cell? ⟨a.block, a.off + 1, none⟩ = some (.string p.val) := (hb2.cell (p := ⟨a.block, a.off + 1, none⟩) hab).trans p1w
                have x0 := (hb2.cell hbb).trans x0w
                have x1 : X2.cell? ⟨b.block, b.off + 1, none⟩ = some (.string x.val) := (hb2.cell (p := ⟨b.block, b.off + 1, none⟩) hbb).trans x1w
                have x2 : X2.cell? ⟨b.block, b.off + 2, none⟩ = some (.bool true) := (hb2.cell (p := ⟨b.block, b.off + 2, none⟩) hbb).trans x2w
                go_wp2
                go_roundw
                case rel => exact ⟨(p :: ps), xs, acc, P, M - 1, _, _, _, _, rfl, rfl, ho2, hb2, HT.out⟩
                case measure => simp [slen]; try omega
            | false =>
              have htw : tellW x = [⟨x.key, x.val⟩] := by unfold tellW; rw [if_neg (by rw [hdel]; simp)]
              have p0 := (hbel.cell hab).trans p0w
              have p1 : wr.cell? ⟨a.block, a.off + 1, none⟩ = some (.string p.val) := (hbel.cell (p := ⟨a.block, a.off + 1, none⟩) hab).trans p1w
              have x0 := (hbel.cell hbb).trans x0w
              have x1 : wr.cell? ⟨b.block, b.off + 1, none⟩ = some (.string x.val) := (hbel.cell (p := ⟨b.block, b.off + 1, none⟩) hbb).trans x1w
              have x2 : wr.cell? ⟨b.block, b.off + 2, none⟩ = some (.bool x.del) := (hbel.cell (p := ⟨b.block, b.off + 2, none⟩) hbb).trans x2w
              rw [hdel] at x2 x2w
              clear HOUT HLEN
              by_cases hxc : xc = 1
              · obtain rfl : M = 1 := by omega
                subst hxc
                obtain rfl : xs = [] := by have := HS.out.xl; simpa using this
                have HT : Hid (MrS w whole n (p :: ps) [] (acc ++ [⟨x.key, x.val⟩]) P 0 (some a) (some b) pc 0) := by
                  have h := mrs_own HS.out hn2 (mrg_lt HK.out) (lies_no (ao := some b))
                  rw [htw] at h
                  exact h
                clear HS htw hdel HK
                go_wp2
                go_quiet (fail)
                have hb1 := below_drewN hbel nq
                have ho1 := own_below hown (below_drewN (Below.refl _ wr) nq)
                clear hbel hown p0 p1 x0 x1 x2
                generalize wr.drewN nq = X1 at *
                clear nq
                have hsz_X1 := hb1.size
                have p0 := (hb1.cell hab).trans p0w
                have p1 : X1.cell? ⟨a.block, a.off + 1, none⟩ = some (.string p.val) := (hb1.cell (p := ⟨a.block, a.off + 1, none⟩) hab).trans p1w
                have x0 := (hb1.cell hbb).trans x0w
                have x1 : X1.cell? ⟨b.block, b.off + 1, none⟩ = some (.string x.val) := (hb1.cell (p := ⟨b.block, b.off + 1, none⟩) hbb).trans x1w
                have x2 : X1.cell? ⟨b.block, b.off + 2, none⟩ = some (.bool false) := (hb1.cell (p := ⟨b.block, b.off + 2, none⟩) hbb).trans x2w
                go_wp2
                go_quiet (fail)
                have hb2 := below_drewN hb1 nq
                have ho2 := own_below ho1 (below_drewN (Below.refl _ X1) nq)
                clear hb1 ho1 p0 p1 x0 x1 x2
                generalize X1.drewN nq = X2 at *
                clear nq
                have hsz_X2 := hb2.size
                have p0 := (hb2.cell hab).trans p0w
                have p1 : X2.cell? ⟨a.block, a.off + 1, none⟩ = some (.string p.val) := (hb2.cell (p := ⟨a.block, a.off + 1, none⟩) hab).trans p1w
                have x0 := (hb2.cell hbb).trans x0w
                have x1 : X2.cell? ⟨b.block, b.off + 1, none⟩ = some (.string x.val) := (hb2.cell (p := ⟨b.block, b.off + 1, none⟩) hbb).trans x1w
                have x2 : X2.cell? ⟨b.block, b.off + 2, none⟩ = some (.bool false) := (hb2.cell (p := ⟨b.block, b.off + 2, none⟩) hbb).trans x2w
                obtain ⟨v3, w3, hr3, hown3, _, _, hbel3⟩ := run_app1 Try.underlying22 Try.infoPr ⟨by decide, by decide, rfl⟩ (X2.alloc (.cells #[.string x.key, .string x.val] 52)).drew 22 w.heap.size (.slice ao3 acc.length cap3) acc.length (prCells acc) (ho2.alloc _).drew X2.heap.size [.string x.key, .string x.val] (heap_new X2 _) rfl (one2 ⟨x.key, x.val⟩) (by omega) (by simp; omega)
                have hb3 : Below w.heap.size w w3 := (hb2.alloc (by omega) _).trans ((Below.refl _ _).drew.trans hbel3)
                clear hbel3
                go_wp2_with fail
                go_region_law (first
                  | (refine step_app_run rfl (.tmp 59) (.tmp 69) 22 rfl (.slice ao3 acc.length cap3) (.slice (some ⟨X2.heap.size, 0, none⟩) 1 1) (by simp [Act.eval]) (by simp [Act.eval]) hr3 ?_))
                all_goals go_wp2
                all_goals go_roundw
                all_goals first
                  | exact ⟨(p :: ps), [], acc ++ [(⟨x.key, x.val⟩ : Pr)], P, 0, _, _, _, _, rfl, rfl, by rw [List.length_append, prCells_append]; exact hown3, hb3, HT.out⟩
                  | (simp [slen]; done)
                  | (simp [slen]; omega)
              · have HT : Hid (MrS w whole n (p :: ps) xs (acc ++ [⟨x.key, x.val⟩]) P (M - 1) (some a) (some (b.add 3)) pc (xc - 1)) := by
                  have h := mrs_own HS.out hn2 (mrg_lt HK.out) (lies_tail HS.out.xlie)
                  rw [htw] at h
                  exact h
                clear HS htw hdel HK
                go_wp2
                go_quiet (fail)
                have hb1 := below_drewN hbel nq
                have ho1 := own_below hown (below_drewN (Below.refl _ wr) nq)
                clear hbel hown p0 p1 x0 x1 x2
                generalize wr.drewN nq = X1 at *
                clear nq
                have hsz_X1 := hb1.size
                have p0 := (hb1.cell hab).trans p0w
                have p1 : X1.cell? ⟨a.block, a.off + 1, none⟩ = some (.string p.val) := (hb1.cell (p := ⟨a.block, a.off + 1, none⟩) hab).trans p1w
                have x0 := (hb1.cell hbb).trans x0w
                have x1 : X1.cell? ⟨b.block, b.off + 1, none⟩ = some (.string x.val) := (hb1.cell (p := ⟨b.block, b.off + 1, none⟩) hbb).trans x1w
                have x2 : X1.cell? ⟨b.block, b.off + 2, none⟩ = some (.bool false) := (hb1.cell (p := ⟨b.block, b.off + 2, none⟩) hbb).trans x2w
                go_wp2
                go_quiet (fail)
                have hb2 := below_drewN hb1 nq
                have ho2 := own_below ho1 (below_drewN (Below.refl _ X1) nq)
                clear hb1 ho1 p0 p1 x0 x1 x2
                generalize X1.drewN nq = X2 at *
                clear nq
                have hsz_X2 := hb2.size
                have p0 := (hb2.cell hab).trans p0w
                have p1 : X2.cell? ⟨a.block, a.off + 1, none⟩ = some (.string p.val) := (hb2.cell (p := ⟨a.block, a.off + 1, none⟩) hab).trans p1w
                have x0 := (hb2.cell hbb).trans x0w
                have x1 : X2.cell? ⟨b.block, b.off + 1, none⟩ = some (.string x.val) := (hb2.cell (p := ⟨b.block, b.off + 1, none⟩) hbb).trans x1w
                have x2 : X2.cell? ⟨b.block, b.off + 2, none⟩ = some (.bool false) := (hb2.cell (p := ⟨b.block, b.off + 2, none⟩) hbb).trans x2w
                obtain ⟨v3, w3, hr3, hown3, _, _, hbel3⟩ := run_app1 Try.underlying22 Try.infoPr ⟨by decide, by decide, rfl⟩ (X2.alloc (.cells #[.string x.key, .string x.val] 52)).drew 22 w.heap.size (.slice ao3 acc.length cap3) acc.length (prCells acc) (ho2.alloc _).drew X2.heap.size [.string x.key, .string x.val] (heap_new X2 _) rfl (one2 ⟨x.key, x.val⟩) (by omega) (by simp; omega)
                have hb3 : Below w.heap.size w w3 := (hb2.alloc (by omega) _).trans ((Below.refl _ _).drew.trans hbel3)
                clear hbel3
                go_wp2_with fail
                go_region_law (first
                  | (refine step_app_run rfl (.tmp 59) (.tmp 69) 22 rfl (.slice ao3 acc.length cap3) (.slice (some ⟨X2.heap.size, 0, none⟩) 1 1) (by simp [Act.eval]) (by simp [Act.eval]) hr3 ?_))
                all_goals go_wp2
                all_goals go_roundw
                all_goals first
                  | exact ⟨(p :: ps), xs, acc ++ [(⟨x.key, x.val⟩ : Pr)], P, M - 1, _, _, _, _, rfl, rfl, by rw [List.length_append, prCells_append]; exact hown3, hb3, HT.out⟩
                  | (simp [slen]; done)
                  | (simp [slen]; omega)
          · have heq : (x.key.toList == p.key.toList) = true := by rw [hk]; simp
            have HK : Hid (x.key = p.key) := hk
            clear hk
            have p0 := (hbel.cell hab).trans p0w
            have p1 : wr.cell? ⟨a.block, a.off + 1, none⟩ = some (.string p.val) := (hbel.cell (p := ⟨a.block, a.off + 1, none⟩) hab).trans p1w
            have x0 := (hbel.cell hbb).trans x0w
            have x1 : wr.cell? ⟨b.block, b.off + 1, none⟩ = some (.string x.val) := (hbel.cell (p := ⟨b.block, b.off + 1, none⟩) hbb).trans x1w
            have x2 : wr.cell? ⟨b.block, b.off + 2, none⟩ = some (.bool x.del) := (hbel.cell (p := ⟨b.block, b.off + 2, none⟩) hbb).trans x2w
            clear HOUT HLEN
            by_cases hpc : pc = 1
            · obtain rfl : P = 1 := by omega
              subst hpc
              obtain rfl : ps = [] := by have := HS.out.pl; simpa using this
              have HT : Hid (MrS w whole n [] (x :: xs) acc 0 M (some a) (some b) 0 xc) := mrs_skip HS.out (mrg_same HK.out) lies_no
              clear HS HK
              go_wp2
              go_quiet (fail)
              have hb1 := below_drewN hbel nq
              have ho1 := own_below hown (below_drewN (Below.refl _ wr) nq)
              clear hbel hown p0 p1 x0 x1 x2
              generalize wr.drewN nq = X1 at *
              clear nq
              have hsz_X1 := hb1.size
              have p0 := (hb1.cell hab).trans p0w
              have p1 : X1.cell? ⟨a.block, a.off + 1, none⟩ = some (.string p.val) := (hb1.cell (p := ⟨a.block, a.off + 1, none⟩) hab).trans p1w
              have x0 := (hb1.cell hbb).trans x0w
              have x1 : X1.cell? ⟨b.block, b.off + 1, none⟩ = some (.string x.val) := (hb1.cell (p := ⟨b.block, b.off + 1, none⟩) hbb).trans x1w
              have x2 : X1.cell? ⟨b.block, b.off + 2, none⟩ = some (.bool x.del) := (hb1.cell (p := ⟨b.block, b.off + 2, none⟩) hbb).trans x2w
              go_wp2
              go_roundw
              case rel => exact ⟨[], x :: xs, acc, 0, _, _, _, _, _, rfl, rfl, ho1, hb1, HT.out⟩
              case measure => simp [slen]; try omega
            · have HT : Hid (MrS w whole n ps (x :: xs) acc (P - 1) M (some (a.add 2)) (some b) (pc - 1) xc) := mrs_skip HS.out (mrg_same HK.out) (lies_tail HS.out.plie)
              clear HS HK
              go_wp2
              go_quiet (fail)
              have hb1 := below_drewN hbel nq
              have ho1 := own_below hown (below_drewN (Below.refl _ wr) nq)
              clear hbel hown p0 p1 x0 x1 x2
              generalize wr.drewN nq = X1 at *
              clear nq
              have hsz_X1 := hb1.size
              have p0 := (hb1.cell hab).trans p0w
              have p1 : X1.cell? ⟨a.block, a.off + 1, none⟩ = some (.string p.val) := (hb1.cell (p := ⟨a.block, a.off + 1, none⟩) hab).trans p1w
              have x0 := (hb1.cell hbb).trans x0w
              have x1 : X1.cell? ⟨b.block, b.off + 1, none⟩ = some (.string x.val) := (hb1.cell (p := ⟨b.block, b.off + 1, none⟩) hbb).trans x1w
              have x2 : X1.cell? ⟨b.block, b.off + 2, none⟩ = some (.bool x.del) := (hb1.cell (p := ⟨b.block, b.off + 2, none⟩) hbb).trans x2w
              go_wp2
              go_roundw
              case rel => exact ⟨ps, x :: xs, acc, P - 1, _, _, _, _, _, rfl, rfl, ho1, hb1, HT.out⟩
              case measure => simp [slen]; try omega
          · have hlt : Op.bytesLess x.key.toList p.key.toList = false := by
              cases h : Op.bytesLess x.key.toList p.key.toList with
              | false => rfl
              | true => exact (kl_asym hk h).elim
            have heq : (x.key.toList == p.key.toList) = false := key_ne (fun e => kl_ne hk e.symm)
            have HK : Hid (kl p.key x.key) := hk
            clear hk
            have p0 := (hbel.cell hab).trans p0w
            have p1 : wr.cell? ⟨a.block, a.off + 1, none⟩ = some (.string p.val) := (hbel.cell (p := ⟨a.block, a.off + 1, none⟩) hab).trans p1w
            have x0 := (hbel.cell hbb).trans x0w
            have x1 : wr.cell? ⟨b.block, b.off + 1, none⟩ = some (.string x.val) := (hbel.cell (p := ⟨b.block, b.off + 1, none⟩) hbb).trans x1w
            have x2 : wr.cell? ⟨b.block, b.off + 2, none⟩ = some (.bool x.del) := (hbel.cell (p := ⟨b.block, b.off + 2, none⟩) hbb).trans x2w
            clear HOUT HLEN
            by_cases hpc : pc = 1
            · obtain rfl : P = 1 := by omega
              subst hpc
              obtain rfl : ps = [] := by have := HS.out.pl; simpa using this
              have HT : Hid (MrS w whole n [] (x :: xs) (acc ++ [p]) 0 M (some a) (some b) 0 xc) := mrs_take HS.out hn2 (mrg_gt HK.out) lies_no
              clear HS HK
              go_wp2
              go_quiet (fail)
              have hb1 := below_drewN hbel nq
              have ho1 := own_below hown (below_drewN (Below.refl _ wr) nq)
              clear hbel hown p0 p1 x0 x1 x2
              generalize wr.drewN nq = X1 at *
              clear nq
              have hsz_X1 := hb1.size
              have p0 := (hb1.cell hab).trans p0w
              have p1 : X1.cell? ⟨a.block, a.off + 1, none⟩ = some (.string p.val) := (hb1.cell (p := ⟨a.block, a.off + 1, none⟩) hab).trans p1w
              have x0 := (hb1.cell hbb).trans x0w
              have x1 : X1.cell? ⟨b.block, b.off + 1, none⟩ = some (.string x.val) := (hb1.cell (p := ⟨b.block, b.off + 1, none⟩) hbb).trans x1w
              have x2 : X1.cell? ⟨b.block, b.off + 2, none⟩ = some (.bool x.del) := (hb1.cell (p := ⟨b.block, b.off + 2, none⟩) hbb).trans x2w
              go_wp2
              go_quiet (fail)
              have hb2 := below_drewN hb1 nq
              have ho2 := own_below ho1 (below_drewN (Below.refl _ X1) nq)
              clear hb1 ho1 p0 p1 x0 x1 x2
              generalize X1.drewN nq = X2 at *
              clear nq
              have hsz_X2 := hb2.size
              have p0 := (hb2.cell hab).trans p0w
              have p1 : X2.cell? ⟨a.block, a.off + 1, none⟩ = some (.string p.val) := (hb2.cell (p := ⟨a.block, a.off + 1, none⟩) hab).trans p1w
              have x0 := (hb2.cell hbb).trans x0w
              have x1 : X2.cell? ⟨b.block, b.off + 1, none⟩ = some (.string x.val) := (hb2.cell (p := ⟨b.block, b.off + 1, none⟩) hbb).trans x1w
              have x2 : X2.cell? ⟨b.block, b.off + 2, none⟩ = some (.bool x.del) := (hb2.cell (p := ⟨b.block, b.off + 2, none⟩) hbb).trans x2w
              go_wp2_with (first
                | (at_builtin; refine wpList_appX _ rfl _ _ 22 rfl 52 2 32 Try.underlying22 Try.infoPr w.heap.size _ acc.length (prCells acc) rfl (ho2.alloc _) ⟨X2.heap.size, 0, none⟩ 1 [.string p.key, .string p.val] rfl rfl (one2 p) (new_cells _ _ [.string p.key, .string p.val] _ rfl) ⟨by omega, by decide, by decide, rfl⟩ (by simp; omega) ?_; intro v3 w3 hown3 hbel3 hst3))
              go_roundw
              case rel => exact ⟨[], (x :: xs), acc ++ [p], 0, _, _, _, _, _, rfl, rfl, by rw [List.length_append, prCells_append]; exact hown3, ((hb2.alloc (Nat.le_of_lt_succ (by simp; omega)) _).trans hbel3), HT.out⟩
              case measure => simp [slen]; try omega
            · have HT : Hid (MrS w whole n ps (x :: xs) (acc ++ [p]) (P - 1) M (some (a.add 2)) (some b) (pc - 1) xc) := mrs_take HS.out hn2 (mrg_gt HK.out) (lies_tail HS.out.plie)
              clear HS HK
              go_wp2
              go_quiet (fail)
              have hb1 := below_drewN hbel nq
              have ho1 := own_below hown (below_drewN (Below.refl _ wr) nq)
              clear hbel hown p0 p1 x0 x1 x2
              generalize wr.drewN nq = X1 at *
              clear nq
              have hsz_X1 := hb1.size
              have p0 := (hb1.cell hab).trans p0w
              have p1 : X1.cell? ⟨a.block, a.off + 1, none⟩ = some (.string p.val) := (hb1.cell (p := ⟨a.block, a.off + 1, none⟩) hab).trans p1w
              have x0 := (hb1.cell hbb).trans x0w
              have x1 : X1.cell? ⟨b.block, b.off + 1, none⟩ = some (.string x.val) := (hb1.cell (p := ⟨b.block, b.off + 1, none⟩) hbb).trans x1w
              have x2 : X1.cell? ⟨b.block, b.off + 2, none⟩ = some (.bool x.del) := (hb1.cell (p := ⟨b.block, b.off + 2, none⟩) hbb).trans x2w
              go_wp2
              go_quiet (fail)
              have hb2 := below_drewN hb1 nq
              have ho2 := own_below ho1 (below_drewN (Below.refl _ X1) nq)
              clear hb1 ho1 p0 p1 x0 x1 x2
              generalize X1.drewN nq = X2 at *
              clear nq
              have hsz_X2 := hb2.size
              have p0 := (hb2.cell hab).trans p0w
              have p1 : X2.cell? ⟨a.block, a.off + 1, none⟩ = some (.string p.val) := (hb2.cell (p := ⟨a.block, a.off + 1, none⟩) hab).trans p1w
              have x0 := (hb2.cell hbb).trans x0w
              have x1 : X2.cell? ⟨b.block, b.off + 1, none⟩ = some (.string x.val) := (hb2.cell (p := ⟨b.block, b.off + 1, none⟩) hbb).trans x1w
              have x2 : X2.cell? ⟨b.block, b.off + 2, none⟩ = some (.bool x.del) := (hb2.cell (p := ⟨b.block, b.off + 2, none⟩) hbb).trans x2w
              go_wp2_with (first
                | (at_builtin; refine wpList_appX _ rfl _ _ 22 rfl 52 2 32 Try.underlying22 Try.infoPr w.heap.size _ acc.length (prCells acc) rfl (ho2.alloc _) ⟨X2.heap.size, 0, none⟩ 1 [.string p.key, .string p.val] rfl rfl (one2 p) (new_cells _ _ [.string p.key, .string p.val] _ rfl) ⟨by omega, by decide, by decide, rfl⟩ (by simp; omega) ?_; intro v3 w3 hown3 hbel3 hst3))
              go_roundw
              case rel => exact ⟨ps, (x :: xs), acc ++ [p], P - 1, _, _, _, _, _, rfl, rfl, by rw [List.length_append, prCells_append]; exact hown3, ((hb2.alloc (Nat.le_of_lt_succ (by simp; omega)) _).trans hbel3), HT.out⟩
              case measure => simp [slen]; try omega
end Go.Proofs.Ytdmkmhjalcfchaa
