/-
  Contracts: the law's own: a store of pairs, each of a time of its own, here and in the document (both).
-/
import Derived.Test.YtdmkmhjalcfchaaTxOp
import Derived.Test.YtdmkmhjalcfchaaQRd
import Derived.Test.YtdmkmhjalcfchaaQPut
import Derived.Deep.RegionHeldLaw
namespace Go.Proofs.Ytdmkmhjalcfchaa
open Go.RowKit Go.Maps Num
open scoped Classical
set_option linter.unusedVariables false
set_option maxRecDepth 100000

/-! Plainly. -/
/-- The version that a pair makes at a time. -/
def Num.verB (x : Pr) (n : Int) : Ver := if x.val.toList == [] then ⟨x.key, n, ⟨#[]⟩, true⟩ else ⟨x.key, n, x.val, false⟩
def Num.bothN (l : List Pr) : Nat → Sto
  | 0 => ⟨1000, 0, []⟩
  | n + 1 => match l[n]? with
    | none => bothN l n
    | some x => if 500 < x.key.size ∨ 500 < x.val.size then bothN l n else (putS (bothN l n) (verB x ((n : Int) + 1))).2
def Num.bothS (l : List Pr) : Sto := bothN l (min l.length 60)
theorem both_skip {l : List Pr} {n : Nat} {x : Pr} (h : l[n]? = some x) (hs : 500 < x.key.size ∨ 500 < x.val.size) : bothN l (n + 1) = bothN l n := by
  show (match l[n]? with | none => bothN l n | some x => if 500 < x.key.size ∨ 500 < x.val.size then bothN l n else (putS (bothN l n) (verB x ((n : Int) + 1))).2) = _
  rw [h]
  exact if_pos hs
theorem both_put {l : List Pr} {n : Nat} {x : Pr} (h : l[n]? = some x) (hs : ¬ (500 < x.key.size ∨ 500 < x.val.size)) : bothN l (n + 1) = (putS (bothN l n) (verB x ((n : Int) + 1))).2 := by
  show (match l[n]? with | none => bothN l n | some x => if 500 < x.key.size ∨ 500 < x.val.size then bothN l n else (putS (bothN l n) (verB x ((n : Int) + 1))).2) = _
  rw [h]
  exact if_neg hs
theorem turnV_mem : ∀ {l : List Ver} {k : ByteArray} {v x : Ver}, x ∈ turnV l k v → x ∈ l ∨ x = v
  | [], _, _, _, h => by cases h
  | y :: l, k, v, x, h => by
    unfold turnV at h
    split at h
    · rcases List.mem_cons.1 h with e | h
      · exact .inr e
      · exact .inl (by simp [h])
    · rcases List.mem_cons.1 h with e | h
      · exact .inl (by simp [e])
      · rcases turnV_mem h with h | h
        · exact .inl (by simp [h])
        · exact .inr h
/-- What a Put leaves. -/
theorem putS_ways (s : Sto) (v : Ver) : ((putS s v).2.vs.length ≤ s.vs.length + 1) ∧ ((putS s v).2.top = s.top ∨ (putS s v).2.top = v.time) ∧ (∀ x ∈ (putS s v).2.vs, x ∈ s.vs ∨ x = v) := by
  unfold putS
  split
  · exact ⟨Nat.le_succ _, .inl rfl, fun x hx => .inl hx⟩
  · split
    · exact ⟨Nat.le_succ _, .inl rfl, fun x hx => .inl hx⟩
    · split
      · refine ⟨?_, .inr rfl, fun x hx => turnV_mem hx⟩
        show (turnV s.vs v.key v).length ≤ _
        rw [turnV_len]
        exact Nat.le_succ _
      · split
        · exact ⟨Nat.le_succ _, .inl rfl, fun x hx => .inl hx⟩
        · refine ⟨?_, .inr rfl, fun x hx => ?_⟩
          · show (s.vs ++ [v]).length ≤ _
            simp
          · rcases List.mem_append.1 hx with h | h
            · exact .inl h
            · exact .inr (List.mem_singleton.1 h)
theorem verB_key (x : Pr) (n : Int) : (verB x n).key = x.key := by
  unfold verB
  split <;> rfl
theorem verB_time (x : Pr) (n : Int) : (verB x n).time = n := by
  unfold verB
  split <;> rfl
structure Num.BothOk (s : Sto) (n : Nat) : Prop where
  len : s.vs.length ≤ n
  top : s.top ≤ (n : Int)
  small : ∀ v ∈ s.vs, v.key.size ≤ 500
  inv : InvS s
  room : s.room = 1000
theorem both_ok (l : List Pr) : ∀ n, BothOk (bothN l n) n
  | 0 => ⟨Nat.le_refl _, Int.le_refl _, fun v hv => (by cases hv), inv_new 1000 (by decide), rfl⟩
  | n + 1 => by
    have h := both_ok l n
    have hl := h.len
    have ht := h.top
    cases hx : l[n]? with
    | none =>
      have e : bothN l (n + 1) = bothN l n := by
        show (match l[n]? with | none => bothN l n | some x => if 500 < x.key.size ∨ 500 < x.val.size then bothN l n else (putS (bothN l n) (verB x ((n : Int) + 1))).2) = _
        rw [hx]
      rw [e]
      exact ⟨by omega, by omega, h.small, h.inv, h.room⟩
    | some x =>
      by_cases hs : 500 < x.key.size ∨ 500 < x.val.size
      · rw [both_skip hx hs]
        exact ⟨by omega, by omega, h.small, h.inv, h.room⟩
      · rw [both_put hx hs]
        obtain ⟨h1, h2, h3⟩ := putS_ways (bothN l n) (verB x ((n : Int) + 1))
        refine ⟨by omega, ?_, fun v hv => ?_, inv_put h.inv _, (put_room _ _).trans h.room⟩
        · rcases h2 with e | e
          · rw [e]; omega
          · rw [e, verB_time]; omega
        · rcases h3 v hv with h4 | h4
          · exact h.small v h4
          · rw [h4, verB_key]
            omega
/-! Both. -/
abbrev Num.prBox (x : Pr) : Obj := .cells #[.string x.key, .string x.val] 52
set_option maxRecDepth 100000 in
set_option maxHeartbeats 4000000 in
theorem both_any (l : List Pr) (ao : Option Addr) (cap : Nat) (w : World) (hl : LiesPr w w.heap.size ao l) :
    Calls Try.prog 10 #[.slice ao l.length cap] w fun e w' => ∃ gs gr, e = .returned (.tuple #[.pointer (some ⟨gs, 0, none⟩), .pointer (some ⟨gr, 0, none⟩)]) ∧ (∃ B1, HoldP B1 w' gs (bothS l)) ∧ (∃ B2, HoldR B2 w' gr (bothS l) ∧ w.heap.size ≤ B2) ∧ Below w.heap.size w w' := by
  have hn1 := new_yes 1000 (by decide) (by decide) w
  have hn2 := fun w1 => rnew_yes 1000 (by decide) (by decide) w1
  obtain ⟨out, hout⟩ : ∃ out, bothS l = out := ⟨_, rfl⟩
  have HOUT : Hid (bothS l = out) := hout
  rw [hout]
  clear hout
  go_enter Try.func10, Try.ntmps10
  go_wp2_with (first
    | (go_at_call 31; refine hn1.mono ?_; rintro e w1 ⟨gs, rfl, hP1, hb1⟩)
    | (go_at_call 32; refine (hn2 _).mono ?_; rintro e w2 ⟨gr, rfl, hR2, hb2⟩))
  have hP2 := hP1.below hb2
  have hbw2 := below_next hb1 (Nat.le_refl _) hb2
  have hs1 := hb1.size
  clear hn1 hn2 hP1
  generalize hB1 : w.heap.size = B1 at hP2
  generalize hB2 : w1.heap.size = B2 at hR2
  have hB12 : w.heap.size ≤ B1 ∧ w.heap.size ≤ B2 := by omega
  clear hB1 hB2 hb1 hb2 hs1
  go_loopw [8] (fun i wr => ∃ c : Nat, c ≤ l.length ∧ c ≤ 60 ∧ i = .int .i64 (c : Int) ∧ Below w.heap.size w wr ∧ HoldP B1 wr gs (bothN l c) ∧ HoldR B2 wr gr (bothN l c)) (fun i _ => 60 - (intOf i).toNat)
  case atStart => exact ⟨0, by omega, by omega, rfl, hbw2, hP2, hR2⟩
  case round =>
    obtain ⟨c, hc, hc60, rfl, hbel, hP, hR⟩ := hrel
    have hsz := hbel.size
    clear hP2 hR2 hbw2
    by_cases hcl : (c : Int) < (l.length : Int)
    · by_cases hc6 : (c : Int) < 60
      · have HX : Hid (l[c]? = some (l[c]'(by omega))) := List.getElem?_eq_getElem _
        obtain ⟨a, rfl, hblk, e0w, e1w⟩ := hl c _ HX.out
        generalize (l[c]'(by omega)) = x at *
        have hpc : ∀ w1, Below w.heap.size w w1 → w1.cell? (a.add (c * 2)) = some (.string x.key) ∧ w1.cell? ⟨(a.add (c * 2)).block, (a.add (c * 2)).off + 1, none⟩ = some (.string x.val) := fun w1 hb => ⟨(hb.cell (by rw [Addr.block_add]; exact hblk)).trans e0w, (hb.cell (p := ⟨(a.add (c * 2)).block, (a.add (c * 2)).off + 1, none⟩) (by show (a.add (c * 2)).block < _; rw [Addr.block_add]; exact hblk)).trans e1w⟩
        obtain ⟨e0, e1⟩ := hpc wr hbel
        clear e0w e1w hblk
        have hlen := (both_ok l c).len
        by_cases hk : (500 : Int) < (x.key.size : Int)
        · have HE : Hid (bothN l (c + 1) = bothN l c) := both_skip HX.out (by omega)
          clear HX HOUT hpc
          go_wp2
          go_roundw
          case rel => exact ⟨c + 1, by omega, by omega, by go_num, hbel, by rw [HE.out]; exact hP, by rw [HE.out]; exact hR⟩
          case measure => simp [intOf]; omega
        · have hk2 : decide ((500 : Int) < (x.key.size : Int)) = false := decide_eq_false hk
          by_cases hv : (500 : Int) < (x.val.size : Int)
          · have HE : Hid (bothN l (c + 1) = bothN l c) := both_skip HX.out (by omega)
            clear HX HOUT hpc
            go_wp2
            go_roundw
            case rel => exact ⟨c + 1, by omega, by omega, by go_num, hbel, by rw [HE.out]; exact hP, by rw [HE.out]; exact hR⟩
            case measure => simp [intOf]; omega
          · have hv2 : decide ((500 : Int) < (x.val.size : Int)) = false := decide_eq_false hv
            have HE : Hid (bothN l (c + 1) = (putS (bothN l c) (verB x ((c : Int) + 1))).2) := both_put HX.out (by omega)
            have hks : x.key.size ≤ maxLen := by unfold maxLen; omega
            have hcc : (c : Int) + 1 ≤ 61 := by omega
            generalize bothN l c = st at *
            cases hem : (x.val.toList == []) with
            | true =>
              have hvb : verB x ((c : Int) + 1) = ⟨x.key, (c : Int) + 1, ⟨#[]⟩, true⟩ := by unfold verB; rw [hem]; rfl
              rw [hvb] at HE
              have hd := sdel_any B1 gs st ((c : Int) + 1) x.key hks (by omega) wr hP
              have hrd := fun w3 (h : HoldR B2 w3 gr st) => rDel_any B2 gr st ((c : Int) + 1) x.key (by omega) w3 h
              clear HX HOUT hvb
              go_wp2_with (first
                | (go_at_call 33; refine hd.mono ?_; rintro e w3 ⟨rfl, hP3, hT3⟩
                   have hR3 := hR.turn hT3
                   have hb3 : Below w.heap.size w w3 := hbel.trans (hT3.below.mono hB12.1)
                   obtain ⟨f0, f1⟩ := hpc w3 hb3)
                | (go_at_call 34; refine (hrd w3 hR3).mono ?_; rintro e w4 ⟨rfl, hR4, hT4⟩
                   have hP4 := hP3.turn hT4
                   have hb4 : Below w.heap.size w w4 := hb3.trans (hT4.below.mono hB12.2)))
              go_roundw
              case rel => exact ⟨c + 1, by omega, by omega, by go_num, hb4, by rw [HE.out]; exact hP4, by rw [HE.out]; exact hR4⟩
              case measure => simp [intOf]; omega
            | false =>
              have hvb : verB x ((c : Int) + 1) = ⟨x.key, (c : Int) + 1, x.val, false⟩ := by unfold verB; rw [hem]; rfl
              rw [hvb] at HE
              have hbd : Below w.heap.size w wr.drew := below_next hbel (Nat.le_refl _) (Below.refl _ wr).drew
              have hPd := hP.below (Below.refl _ wr).drew
              have hRd := hR.below (Below.refl _ wr).drew
              have hd := sput_any B1 gs st ((c : Int) + 1) x.key x.val hks (by omega) wr.drew hPd
              have hrd := fun w3 (h : HoldR B2 w3 gr st) => rPut_any B2 gr st ((c : Int) + 1) x.key x.val (by omega) w3 h
              obtain ⟨d0, d1⟩ := hpc wr.drew hbd
              have hw1 : IntKind.i64.wrap ((c : Int) + 1) = (c : Int) + 1 := by simp [IntKind.wrap, IntKind.signed, IntKind.bits]; omega
              clear HX HOUT hvb
              go_wp2_with fail
              go_region_held_law (fun w' => w'.cell? (a.add (c * 2)) = some (.string x.key) ∧ w'.cell? ⟨(a.add (c * 2)).block, (a.add (c * 2)).off + 1, none⟩ = some (.string x.val)) (first | exact ⟨d0, d1⟩ | exact ⟨f0, f1⟩)
                (first
                  | (go_at_call 35; refine hd.mono ?_; rintro e w3 ⟨rfl, hP3, hT3⟩
                     have hb3 : Below w.heap.size w w3 := hbd.trans (hT3.below.mono hB12.1)
                     obtain ⟨f0, f1⟩ := hpc w3 hb3))
              have hR3 := hRd.turn hT3
              have hb3d : Below w.heap.size w w3.drew := below_next hb3 (Nat.le_refl _) (Below.refl _ w3).drew
              have hP3d := hP3.below (Below.refl _ w3).drew
              have hR3d := hR3.below (Below.refl _ w3).drew
              obtain ⟨g0, g1⟩ := hpc w3.drew hb3d
              clear d0 d1 e0 e1
              go_wp2_with fail
              go_region_held_law (fun w' => w'.cell? (a.add (c * 2)) = some (.string x.key) ∧ w'.cell? ⟨(a.add (c * 2)).block, (a.add (c * 2)).off + 1, none⟩ = some (.string x.val)) (first | exact ⟨g0, g1⟩ | exact ⟨i0, i1⟩)
                (first
                  | (go_at_call 28; refine (hrd _ hR3d).mono ?_; rintro e w4 ⟨rfl, hR4, hT4⟩
                     have hb4 : Below w.heap.size w w4 := hb3d.trans (hT4.below.mono hB12.2)
                     obtain ⟨i0, i1⟩ := hpc w4 hb4))
              have hP4 := hP3d.turn hT4
              go_wp2
              go_roundw
              case rel => exact ⟨c + 1, by omega, by omega, by go_num, hb4, by rw [HE.out]; exact hP4, by rw [HE.out]; exact hR4⟩
              case measure => simp [intOf]; omega
      · have hc6' : decide ((c : Int) < 60) = false := decide_eq_false hc6
        have hfin : bothN l c = out := by
          rw [← HOUT.out]
          unfold bothS
          rw [show min l.length 60 = c by omega]
        rw [hfin] at hP hR
        clear HOUT hfin
        go_wp2
        go_ret2
        exact ⟨gs, gr, rfl, ⟨B1, hP⟩, ⟨B2, hR, hB12.2⟩, hbel⟩
    · have hcl' : decide ((c : Int) < (l.length : Int)) = false := decide_eq_false hcl
      have hfin : bothN l c = out := by
        rw [← HOUT.out]
        unfold bothS
        rw [show min l.length 60 = c by omega]
      rw [hfin] at hP hR
      clear HOUT hfin
      go_wp2
      go_ret2
      exact ⟨gs, gr, rfl, ⟨B1, hP⟩, ⟨B2, hR, hB12.2⟩, hbel⟩
end Go.Proofs.Ytdmkmhjalcfchaa
