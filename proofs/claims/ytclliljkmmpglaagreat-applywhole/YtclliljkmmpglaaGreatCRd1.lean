/-
  Joined:
  Contracts: package cmd's reader: so many bytes, a number, a text, a bool; or it gives up.
  Lists that the call itself has made: values, ranges, writes, rows; what keeps them; that they lie in memory.
-/
import Derived.Test.YtclliljkmmpglaaGreatBase
import Derived.Test.YtclliljkmmpglaaGreatCod
import Derived.Test.YtclliljkmmpglaaGreatCPut
import Derived.Test.YtclliljkmmpglaaGreatCWri
import Derived.Lib.Strings
import Derived.Deep.RegionWith
import Derived.RegionDies
namespace Go.Proofs.YtclliljkmmpglaaGreat
open Go.RowKit Num
set_option linter.unusedVariables false
set_option maxRecDepth 100000

theorem or_byteD (N : Nat) (b : UInt8) (hN : N < 72057594037927936) : bits .or .u64 ((N : Int) * 256) (b.toNat : Int) = ((N * 256 + b.toNat : Nat) : Int) := by
  have hb : b.toNat < 256 := b.toNat_lt
  obtain ⟨m, hm⟩ : ∃ m, N * 256 = m := ⟨_, rfl⟩
  have hm1 : m < 18446744073709551616 := by omega
  have hb1 : b.toNat < 18446744073709551616 := by omega
  have e := u64_or_nat m b.toNat hm1 hb1
  have e2 : (N : Int) * 256 = (m : Int) := by omega
  rw [e2, e, nat_join 8 m b.toNat (by omega) hb, hm]
theorem take_data (x : ByteArray) (n : Nat) : (x.extract 0 n).data.toList = x.data.toList.take n := by
  rw [Go.Lib.extract_data]
  simp
theorem drop_data (x : ByteArray) (k : Nat) : (x.extract k x.size).data.toList = x.data.toList.drop k := by
  rw [Go.Lib.extract_data]
  have : x.data.toList.length = x.size := rfl
  rw [List.take_of_length_le]
  rw [List.length_drop]
  omega
/-- A reader, and what is left. -/
def Num.RdAt (p : Nat) (w : World) (x : ByteArray) : Prop := w.heap[p]? = some (.cells #[.string x] 152 (0, 0))
/-- It gives up. -/
def Num.boom : List PanicEntry := [{ v := .iface 26 (.int .i64 3), recovered := false }]
/-- What a reading function tells. -/
def Num.Rds {α : Type} (p : Nat) (w : World) (V : Nat → World → Value → α → Prop) (o : Option (α × List UInt8)) (e : Ending) (w' : World) : Prop :=
  w.grownBy w' (some p) ∧ match o with
    | some q => ∃ v y, e = .returned v ∧ V w.heap.size w' v q.1 ∧ RdAt p w' y ∧ y.data.toList = q.2
    | none => e = .panicked boom
theorem Num.RdAt.lt {p : Nat} {w : World} {x : ByteArray} (h : RdAt p w x) : p < w.heap.size := (Array.getElem?_eq_some_iff.1 h).1
theorem take_no {p : Nat} {w : World} {x : ByteArray} (h : RdAt p w x) (hx : x.size ≤ 1000000) (n : Nat) (hn : x.size < n) (hb : n < 18446744073709551616) :
    Calls Tryz.prog 134 #[.pointer (some ⟨p, 0, none⟩), .int .u64 (n : Int)] w fun e w' => e = .panicked boom ∧ w' = w := by
  have c0 := box_cell h 0 _ rfl
  have hlt : (x.size : Int) < (n : Int) := by omega
  go_enter Tryz.func134, Tryz.ntmps134
  go_wp2
  exact ⟨rfl, rfl, rfl⟩
theorem take_yes {p : Nat} {w : World} {x : ByteArray} (h : RdAt p w x) (hx : x.size ≤ 1000000) (n : Nat) (hn : n ≤ x.size) :
    Calls Tryz.prog 134 #[.pointer (some ⟨p, 0, none⟩), .int .u64 (n : Int)] w fun e w' => e = .returned (.string (x.extract 0 n)) ∧ RdAt p w' (x.extract n x.size) ∧ w.grownBy w' (some p) := by
  have c0 := box_cell h 0 _ rfl
  have f0 := box_open h 0
  have hlt : ¬ (x.size : Int) < (n : Int) := by omega
  go_enter Tryz.func134, Tryz.ntmps134
  go_wp2
  go_ret
  refine ⟨rfl, ?_, grown_set _ _ _ _⟩
  unfold RdAt
  rw [heap_setCell_same w p 0 _ _ _ h]
  rfl
theorem gNat_any {p : Nat} {w : World} {x : ByteArray} (h : RdAt p w x) (hx : x.size ≤ 1000000) :
    Calls Tryz.prog 133 #[.pointer (some ⟨p, 0, none⟩)] w fun e w' => Rds p w (fun _ _ v (n : Nat) => v = .int .u64 (n : Int)) (rdNat x.data.toList) e w' := by
  have hd : x.data.toList.length = x.size := rfl
  by_cases h8 : x.size < 8
  · have hr : rdNat x.data.toList = none := if_pos (show x.data.toList.length < 8 from h8)
    rw [hr]
    have ht := take_no h hx 8 (by omega) (by omega)
    go_enter Tryz.func133, Tryz.ntmps133
    go_wp2_with (go_at_call 134; refine ht.mono ?_; rintro e w1 ⟨rfl, rfl⟩)
    exact ⟨rfl, World.grownBy.refl _ _, rfl⟩
  · have hr : rdNat x.data.toList = some (numOf (x.data.toList.take 8), x.data.toList.drop 8) := if_neg (show ¬ x.data.toList.length < 8 from h8)
    rw [hr]
    have ht := take_yes h hx 8 (by omega)
    have hdat : (x.extract 0 8).data.toList = x.data.toList.take 8 := take_data x 8
    have hdr := drop_data x 8
    have hsz : (x.extract 0 8).size = 8 := by simp; omega
    rw [← hdat, ← hdr]
    clear hdat hdr hd
    generalize x.extract 0 8 = s at *
    generalize x.extract 8 x.size = y at *
    go_enter Tryz.func133, Tryz.ntmps133
    go_wp2_with (go_at_call 134; refine ht.mono ?_; rintro e w1 ⟨rfl, hat, hgr⟩)
    go_loop [4, 12] (fun n i => ∃ k : Nat, k ≤ 8 ∧ i = .int .i64 (k : Int) ∧ n = .int .u64 ((numOf (s.data.toList.take k) : Nat) : Int)) (fun _ i => 8 - (intOf i).toNat)
    case atStart => exact ⟨0, by omega, rfl, rfl⟩
    case round =>
      obtain ⟨k, hk, rfl, rfl⟩ := hrel
      by_cases hk8 : k < 8
      · have hks : k < s.size := by omega
        have hN := numOf_take_lt s.data.toList k (by omega)
        have hN' := numOf_take s k hks
        obtain ⟨N, hNe⟩ : ∃ N, numOf (s.data.toList.take k) = N := ⟨_, rfl⟩
        obtain ⟨M, hMe⟩ : ∃ M, numOf (s.data.toList.take (k + 1)) = M := ⟨_, rfl⟩
        rw [hNe] at hN hN' ⊢
        rw [hMe] at hN'
        have hb : s[k].toNat < 256 := s[k].toNat_lt
        have hN2 : N < 72057594037927936 := Nat.lt_of_lt_of_le hN (Nat.le_trans (Nat.pow_le_pow_right (by omega) (show k ≤ 7 by omega)) (by decide))
        have ho := or_byteD N s[k] hN2
        rw [← hN'] at ho
        have HM : Hid (numOf (s.data.toList.take (k + 1)) = M) := hMe
        clear hNe hMe hN hN'
        go_wp2
        go_round
        case rel => exact ⟨k + 1, by omega, by go_num, by rw [HM.out]⟩
        case measure => simp [intOf]; omega
      · have hk8 : k = 8 := by omega
        subst hk8
        have hall : s.data.toList.take 8 = s.data.toList := List.take_of_length_le (by show s.size ≤ 8; omega)
        rw [hall]
        have hlt : numOf s.data.toList < 18446744073709551616 := numOf_eight _ (by show s.size = 8; omega)
        go_wp2
        go_ret
        exact ⟨hgr, _, _, rfl, rfl, hat, rfl⟩
theorem gInt_any {p : Nat} {w : World} {x : ByteArray} (h : RdAt p w x) (hx : x.size ≤ 1000000) :
    Calls Tryz.prog 106 #[.pointer (some ⟨p, 0, none⟩)] w fun e w' => Rds p w (fun _ _ v (n : Int) => v = .int .i64 n) (rdInt x.data.toList) e w' := by
  have hn := gNat_any h hx
  rw [rdInt_map]
  cases hr : rdNat x.data.toList with
  | none =>
    rw [hr] at hn
    clear hr
    go_enter Tryz.func106, Tryz.ntmps106
    go_wp2_with (go_at_call 133; refine hn.mono ?_; rintro e w1 ⟨hg, rfl⟩)
    exact ⟨rfl, hg, rfl⟩
  | some q =>
    have hlt := rdNat_ok _ _ hr
    rw [hr] at hn
    clear hr
    obtain ⟨z, r⟩ := q
    have hc : IntKind.i64.wrap ((z : Nat) : Int) = sgn z := by
      rw [IntKind.wrap_i64]
      unfold sgn
      simp only at hlt
      split <;> omega
    obtain ⟨u, hu⟩ : ∃ u, sgn z = u := ⟨_, rfl⟩
    rw [hu] at hc
    have HU : Hid (sgn z = u) := hu
    clear hu hlt
    go_enter Tryz.func106, Tryz.ntmps106
    go_wp2_with (go_at_call 133; refine hn.mono ?_; rintro e w1 ⟨hg, v, y, rfl, rfl, hat, hy⟩)
    go_ret
    exact ⟨hg, _, y, rfl, (by show _ = Value.int .i64 (sgn z); rw [HU.out]; rfl), hat, hy⟩
theorem gTxt_any {p : Nat} {w : World} {x : ByteArray} (h : RdAt p w x) (hx : x.size ≤ 1000000) :
    Calls Tryz.prog 108 #[.pointer (some ⟨p, 0, none⟩)] w fun e w' => Rds p w (fun _ _ v s => v = .string s) (rdTxt x.data.toList) e w' := by
  have hnd := gNat_any (show RdAt p w.drew x from h) hx
  have hgd : w.grownBy w.drew (some p) := ⟨rfl, rfl, rfl, Nat.le_refl _, fun _ _ _ => rfl⟩
  unfold rdTxt
  cases hr : rdNat x.data.toList with
  | none =>
    rw [hr] at hnd
    clear hr
    go_enter Tryz.func108, Tryz.ntmps108
    go_wp2_with fail
    go_region_dies
    refine hnd.mono ?_
    rintro e w1 ⟨hg, rfl⟩
    exact And.intro rfl (And.intro (hgd.trans hg) rfl)
  | some q =>
    have hlt := rdNat_ok _ _ hr
    have hle : q.2.length ≤ x.size := by
      have h8 := (Cod.nat.bwd _ q.1 q.2 hr).1
      have := congrArg List.length h8
      rw [List.length_append] at this
      have hd : x.data.toList.length = x.size := rfl
      omega
    rw [hr] at hnd
    clear hr
    obtain ⟨z, r⟩ := q
    simp only [Option.bind_some]
    by_cases hz : z ≤ r.length
    · rw [if_pos hz]
      have ht : ∀ w1 y, RdAt p w1 y → y.data.toList = r → Calls Tryz.prog 134 #[.pointer (some ⟨p, 0, none⟩), .int .u64 (z : Int)] w1 fun e w' => e = .returned (.string (str (r.take z))) ∧ (∃ y', RdAt p w' y' ∧ y'.data.toList = r.drop z) ∧ w1.grownBy w' (some p) := by
        intro w1 y hat hy
        have hys : y.size = r.length := by rw [← hy]; rfl
        refine (take_yes hat (by simp only at hle; omega) z (by omega)).mono ?_
        rintro e w2 ⟨rfl, h2, h3⟩
        refine ⟨?_, ⟨_, h2, by rw [drop_data, hy]⟩, h3⟩
        rw [← hy, ← take_data, str_self]
      go_enter Tryz.func108, Tryz.ntmps108
      go_wp2_with fail
      go_region_with (first
        | (go_at_call 133; refine hnd.mono ?_; rintro e w1 ⟨hg, v, y, rfl, rfl, hat, hy⟩)
        | (go_at_call 134; refine (ht _ _ hat hy).mono ?_; rintro e w2 ⟨rfl, ⟨y2, hat2, hy2⟩, hg2⟩))
      all_goals
        go_wp2
        go_ret
        exact ⟨hgd.trans (hg.trans hg2), _, y2, rfl, rfl, hat2, hy2⟩
    · rw [if_neg hz]
      have ht : ∀ w1 y, RdAt p w1 y → y.data.toList = r → Calls Tryz.prog 134 #[.pointer (some ⟨p, 0, none⟩), .int .u64 (z : Int)] w1 fun e w' => e = .panicked boom ∧ w' = w1 := by
        intro w1 y hat hy
        have hys : y.size = r.length := by rw [← hy]; rfl
        exact take_no hat (by simp only at hle; omega) z (by omega) hlt
      go_enter Tryz.func108, Tryz.ntmps108
      go_wp2_with fail
      go_region_dies
      refine hnd.mono ?_
      rintro e w1 ⟨hg, v, y, rfl, rfl, hat, hy⟩
      rename_i K hK
      refine hK _ _ ?_
      refine wpAny_ready (rs := [5]) (by kernel_rfl) (by simp) ?_
      refine AllReady.cons rfl (fun K hK => ?_) ?_
      · go_simp
        refine (ht _ _ hat hy).mono ?_
        rintro e w2 ⟨rfl, rfl⟩
        exact And.intro rfl (And.intro (hgd.trans hg) rfl)
      · exact AllReady.nil
end Go.Proofs.YtclliljkmmpglaaGreat
namespace Go.Proofs.YtclliljkmmpglaaGreat
open Go.RowKit Num
set_option linter.unusedVariables false
set_option maxRecDepth 100000

def Num.ValV (B : Nat) (w : World) (cs : List Value) (x : Val) : Prop := cs = [.int .i64 x.k, .int .i64 x.n, .int .u64 (x.f : Int), .string x.s]
def Num.RngV (B : Nat) (w : World) (cs : List Value) (x : Rng) : Prop := cs = [.string x.lo, .string x.hi]
def Num.WrtV (B : Nat) (w : World) (cs : List Value) (x : Wrt) : Prop := cs = [.string x.key, .string x.val, .bool x.del]
abbrev Num.OwnV (B : Nat) (w : World) (v : Value) (l : List Val) : Prop := OwnS ValV 119 4 B w v l
abbrev Num.OwnQ (B : Nat) (w : World) (v : Value) (l : List Rng) : Prop := OwnS RngV 67 2 B w v l
abbrev Num.OwnW (B : Nat) (w : World) (v : Value) (l : List Wrt) : Prop := OwnS WrtV 72 3 B w v l
def Num.RowV (B : Nat) (w : World) (cs : List Value) (l : List Val) : Prop := ∃ v, cs = [v] ∧ OwnV B w v l
abbrev Num.OwnX (B : Nat) (w : World) (v : Value) (l : List (List Val)) : Prop := OwnS RowV 116 1 B w v l
theorem rowS_shape {B : Nat} {w : World} {v : Value} {l : List ByteArray} (h : RowS B w v l) : ∃ ao cap, v = .slice ao l.length cap := by
  obtain ⟨ao, cap, h1, _⟩ := h.lies
  exact ⟨ao, cap, h1⟩
theorem rowS_hold {B : Nat} {e : TypeId} {w w' : World} {v : Value} {l : List ByteArray} (h : RowS B w v l) (hh : HoldX B e w w') (hne : 9 ≠ e) : RowS B w' v l := own_hold h hh hne
theorem rowS_mono {B B' : Nat} {w : World} {v : Value} {l : List ByteArray} (h : RowS B w v l) (hB : B' ≤ B) : RowS B' w v l := own_mono h hB
theorem ownV_hold {B : Nat} {e : TypeId} {w w' : World} {v : Value} {l : List Val} (h : OwnV B w v l) (hh : HoldX B e w w') (hne : 119 ≠ e) : OwnV B w' v l := h.hold hh hne fun _ _ h => h
theorem ownV_mono {B B' : Nat} {w : World} {v : Value} {l : List Val} (h : OwnV B w v l) (hB : B' ≤ B) : OwnV B' w v l := h.mono hB fun _ _ h => h
theorem ownQ_hold {B : Nat} {e : TypeId} {w w' : World} {v : Value} {l : List Rng} (h : OwnQ B w v l) (hh : HoldX B e w w') (hne : 67 ≠ e) : OwnQ B w' v l := h.hold hh hne fun _ _ h => h
theorem ownQ_mono {B B' : Nat} {w : World} {v : Value} {l : List Rng} (h : OwnQ B w v l) (hB : B' ≤ B) : OwnQ B' w v l := h.mono hB fun _ _ h => h
theorem ownW_hold {B : Nat} {e : TypeId} {w w' : World} {v : Value} {l : List Wrt} (h : OwnW B w v l) (hh : HoldX B e w w') (hne : 72 ≠ e) : OwnW B w' v l := h.hold hh hne fun _ _ h => h
theorem ownW_mono {B B' : Nat} {w : World} {v : Value} {l : List Wrt} (h : OwnW B w v l) (hB : B' ≤ B) : OwnW B' w v l := h.mono hB fun _ _ h => h
theorem rowV_hold {B : Nat} {e : TypeId} {w w' : World} {cs : List Value} {x : List Val} (h : RowV B w cs x) (hh : HoldX B e w w') (hne : 119 ≠ e) : RowV B w' cs x := by
  obtain ⟨v, h1, h2⟩ := h
  exact ⟨v, h1, ownV_hold h2 hh hne⟩
theorem rowV_mono {B B' : Nat} {w : World} {cs : List Value} {x : List Val} (h : RowV B w cs x) (hB : B' ≤ B) : RowV B' w cs x := by
  obtain ⟨v, h1, h2⟩ := h
  exact ⟨v, h1, ownV_mono h2 hB⟩
theorem ownX_hold {B : Nat} {e : TypeId} {w w' : World} {v : Value} {l : List (List Val)} (h : OwnX B w v l) (hh : HoldX B e w w') (hne : 116 ≠ e) (hne2 : 119 ≠ e) : OwnX B w' v l := h.hold hh hne fun _ _ h => rowV_hold h hh hne2
theorem ownX_mono {B B' : Nat} {w : World} {v : Value} {l : List (List Val)} (h : OwnX B w v l) (hB : B' ≤ B) : OwnX B' w v l := h.mono hB fun _ _ h => rowV_mono h hB

/-! They lie in memory. -/
theorem ownV_lies {B : Nat} {w : World} {v : Value} {l : List Val} (h : OwnV B w v l) : ∃ ao cap, v = .slice ao l.length cap ∧ LiesVal w w.heap.size ao l :=
  h.lies ValAt fun p cs x hV _ hc hs => by
    cases hV
    exact ⟨at_zero hs (hc 0 _ rfl), hc 1 _ rfl, hc 2 _ rfl, hc 3 _ rfl⟩
theorem ownQ_lies {B : Nat} {w : World} {v : Value} {l : List Rng} (h : OwnQ B w v l) : ∃ ao cap, v = .slice ao l.length cap ∧ LiesQ w w.heap.size ao l :=
  h.lies RngAt fun p cs x hV _ hc hs => by
    cases hV
    exact ⟨at_zero hs (hc 0 _ rfl), hc 1 _ rfl⟩
theorem ownW_lies {B : Nat} {w : World} {v : Value} {l : List Wrt} (h : OwnW B w v l) : ∃ ao cap, v = .slice ao l.length cap ∧ LiesW w w.heap.size ao l :=
  h.lies WrtAt fun p cs x hV _ hc hs => by
    cases hV
    exact ⟨at_zero hs (hc 0 _ rfl), hc 1 _ rfl, hc 2 _ rfl⟩
theorem ownX_lies {B : Nat} {w : World} {v : Value} {l : List (List Val)} (h : OwnX B w v l) : ∃ ao cap, v = .slice ao l.length cap ∧ LiesX w w.heap.size ao l :=
  h.lies (RowAt w.heap.size) fun p cs x hV _ hc hs => by
    obtain ⟨v, rfl, hr⟩ := hV
    obtain ⟨ao, cap, rfl, hl⟩ := ownV_lies hr
    exact ⟨ao, cap, at_zero hs (hc 0 _ rfl), hl⟩
/-- A command of the call's own. -/
structure Num.OwnC (B : Nat) (w : World) (s : Cs) (c : Cmd) : Prop where
  keys : RowS B w (.slice s.ko c.keys.length s.kc) c.keys
  rngs : OwnQ B w (.slice s.ro c.rngs.length s.rc) c.rngs
  wrts : OwnW B w (.slice s.wo c.wrts.length s.wc) c.wrts
  rows : OwnX B w (.slice s.xo c.rows.length s.xc) c.rows
theorem slice_eq {a b : Option Addr} {m n k l : Nat} (h : Value.slice a m k = Value.slice b n l) : a = b := by
  cases h
  rfl
theorem Num.OwnC.lies {B : Nat} {w : World} {s : Cs} {c : Cmd} (h : OwnC B w s c) : LiesC w w.heap.size s c := by
  obtain ⟨a1, _, e1, _, l1⟩ := h.keys.lies
  obtain ⟨a2, _, e2, l2⟩ := ownQ_lies h.rngs
  obtain ⟨a3, _, e3, l3⟩ := ownW_lies h.wrts
  obtain ⟨a4, _, e4, l4⟩ := ownX_lies h.rows
  rw [← slice_eq e1] at l1
  rw [← slice_eq e2] at l2
  rw [← slice_eq e3] at l3
  rw [← slice_eq e4] at l4
  exact ⟨l1, l2, l3, l4⟩
end Go.Proofs.YtclliljkmmpglaaGreat
