/-
  Two transactions in one memory, each at work while the other one stays.
-/
import Derived.Test.YtdmkmhjalcfchaaTxQ
import Derived.Test.YtdmkmhjalcfchaaCSame
namespace Go.Proofs.Ytdmkmhjalcfchaa
open Go.RowKit Go.Maps Num
open scoped Classical
set_option linter.unusedVariables false
set_option maxRecDepth 100000

structure Num.DuoT (B : Nat) (w : World) (g h : Nat) (T U : Tx) (so : Option Nat) (F G : Nat → Prop) : Prop where
  one : HoldT B w g T so F
  two : HoldT B w h U so G
  apart : ∀ i, F i → ¬ G i
theorem Num.DuoT.left {B : Nat} {w w' : World} {g h : Nat} {T U T' : Tx} {so : Option Nat} {F G : Nat → Prop} (d : DuoT B w g h T U so F G) (h1 : HoldT B w' g T' so (Grw F w w')) (ho : Out F w w') : DuoT B w' g h T' U so (Grw F w w') G :=
  ⟨h1, d.two.other ho (fun i hi => (d.one.2 i hi).1) d.apart, fun i hi hg => by
    rcases hi with hi | hi
    · exact d.apart i hi hg
    · have := (d.two.2 i hg).2
      omega⟩
theorem Num.DuoT.right {B : Nat} {w w' : World} {g h : Nat} {T U U' : Tx} {so : Option Nat} {F G : Nat → Prop} (d : DuoT B w g h T U so F G) (h1 : HoldT B w' h U' so (Grw G w w')) (ho : Out G w w') : DuoT B w' g h T U' so F (Grw G w w') :=
  ⟨d.one.other ho (fun i hi => (d.two.2 i hi).1) (fun i hi hf => d.apart i hf hi), h1, fun i hi hg => by
    rcases hg with hg | hg
    · exact d.apart i hi hg
    · have := (d.one.2 i hi).2
      omega⟩
theorem Num.DuoT.below {B : Nat} {w w' : World} {g h : Nat} {T U : Tx} {so : Option Nat} {F G : Nat → Prop} (d : DuoT B w g h T U so F G) (hb : Below w.heap.size w w') : DuoT B w' g h T U so F G := ⟨d.one.below hb, d.two.below hb, d.apart⟩
/-- Both are as far. -/
def Num.DuoS (B : Nat) (w : World) (g h : Nat) (so : Option Nat) (st : Sto) (n : Nat) : Prop := ∃ T F G, DuoT B w g h T T so F G ∧ T.lim ≤ n ∧ T.st = st ∧ T.snap = 1000
theorem keep_st_get (t : Tx) (k : ByteArray) : (getN t k).st = t.st ∧ (getN t k).snap = t.snap ∧ (getN t k).lim = t.lim + 1 := by
  unfold getN
  split <;> exact ⟨rfl, rfl, rfl⟩
/-- Both put, or delete. -/
theorem duo_put {B : Nat} {w : World} {g h : Nat} {so : Option Nat} {st : Sto} {n : Nat} (d : DuoS B w g h so st n) (hn : n ≤ 900) (k v : ByteArray) (hk : k.size ≤ 900000) :
    Calls Try.prog 18 #[.pointer (some ⟨g, 0, none⟩), .string k, .string v] w fun e w' => e = .returned (.tuple #[]) ∧ Below B w w' ∧ ∀ w2, Below w'.heap.size w' w2 → Calls Try.prog 18 #[.pointer (some ⟨h, 0, none⟩), .string k, .string v] w2 fun e w'' => e = .returned (.tuple #[]) ∧ Below B w2 w'' ∧ DuoS B w'' g h so st (n + 1) := by
  obtain ⟨T, F, G, d, hl, hst, hsn⟩ := d
  have hgl := d.one.gB
  refine (tput_any B g T so k v hk (by omega) F w d.one).mono ?_
  rintro e w' ⟨rfl, h1, ho⟩
  have d' := d.left h1 ho
  refine ⟨rfl, ho.below (fun i hi => (d.one.2 i hi).1) (by omega), fun w2 hb => ?_⟩
  have d2 := d'.below hb
  have hgl2 := d2.one.gB
  refine (tput_any B h T so k v hk (by omega) G w2 d2.two).mono ?_
  rintro e w'' ⟨rfl, h2, ho2⟩
  exact ⟨rfl, ho2.below (fun i hi => (d2.two.2 i hi).1) (by omega), _, _, _, d2.right h2 ho2, by show T.lim + 1 ≤ n + 1; omega, hst, hsn⟩
theorem duo_del {B : Nat} {w : World} {g h : Nat} {so : Option Nat} {st : Sto} {n : Nat} (d : DuoS B w g h so st n) (hn : n ≤ 900) (k : ByteArray) (hk : k.size ≤ 900000) :
    Calls Try.prog 20 #[.pointer (some ⟨g, 0, none⟩), .string k] w fun e w' => e = .returned (.tuple #[]) ∧ Below B w w' ∧ ∀ w2, Below w'.heap.size w' w2 → Calls Try.prog 20 #[.pointer (some ⟨h, 0, none⟩), .string k] w2 fun e w'' => e = .returned (.tuple #[]) ∧ Below B w2 w'' ∧ DuoS B w'' g h so st (n + 1) := by
  obtain ⟨T, F, G, d, hl, hst, hsn⟩ := d
  have hgl := d.one.gB
  refine (tdel_any B g T so k hk (by omega) F w d.one).mono ?_
  rintro e w' ⟨rfl, h1, ho⟩
  have d' := d.left h1 ho
  refine ⟨rfl, ho.below (fun i hi => (d.one.2 i hi).1) (by omega), fun w2 hb => ?_⟩
  have d2 := d'.below hb
  have hgl2 := d2.one.gB
  refine (tdel_any B h T so k hk (by omega) G w2 d2.two).mono ?_
  rintro e w'' ⟨rfl, h2, ho2⟩
  exact ⟨rfl, ho2.below (fun i hi => (d2.two.2 i hi).1) (by omega), _, _, _, d2.right h2 ho2, by show T.lim + 1 ≤ n + 1; omega, hst, hsn⟩
/-- Both scan: the same is told. -/
theorem duo_scan {B : Nat} {w : World} {g h : Nat} {so : Option Nat} {st : Sto} {n : Nat} (d : DuoS B w g h so st n) (hn : n ≤ 900) (lo hi : ByteArray) (N : Int) :
    Calls Try.prog 16 #[.pointer (some ⟨g, 0, none⟩), .string lo, .string hi, .int .i64 N] w fun e w' => ∃ told ao cap, e = .returned (.slice ao (told : List Pr).length cap) ∧ Below B w w' ∧ ∀ w2, Below w'.heap.size w' w2 → Calls Try.prog 16 #[.pointer (some ⟨h, 0, none⟩), .string lo, .string hi, .int .i64 N] w2 fun e w'' => ∃ bo bcap, e = .returned (.slice bo told.length bcap) ∧ Below B w2 w'' ∧ LiesPr w'' w''.heap.size ao told ∧ LiesPr w'' w''.heap.size bo told ∧ told.length ≤ 2000 ∧ DuoS B w'' g h so st (n + 1) := by
  obtain ⟨T, F, G, d, hl, hst, hsn⟩ := d
  have hgl := d.one.gB
  by_cases hN : N < 1
  · refine (tscan_no g lo hi N hN w).mono ?_
    rintro e w' ⟨rfl, rfl⟩
    refine ⟨[], none, 0, rfl, Below.refl _ _, fun w2 hb => ?_⟩
    refine (tscan_no h lo hi N hN w2).mono ?_
    rintro e w'' ⟨rfl, rfl⟩
    exact ⟨none, 0, rfl, Below.refl _ _, lies_no, lies_no, Nat.zero_le _, _, _, _, d.below hb, by omega, hst, hsn⟩
  · obtain ⟨r, hr⟩ := scan_ex B w so T.st d.one.sto T.snap lo hi
    have hlen := (scanX_small (n := N) d.one.ok hr).2
    refine (tscan_yes B g T so lo hi N (by omega) (by omega) r hr F w d.one).mono ?_
    rintro e w' ⟨ao, cap, rfl, hrow, h1, ho⟩
    have d' := d.left h1 ho
    refine ⟨_, ao, cap, rfl, ho.below (fun i hi => (d.one.2 i hi).1) (by omega), fun w2 hb => ?_⟩
    have d2 := d'.below hb
    have hrow2 := own_below hrow hb
    have hgl2 := d2.one.gB
    refine (tscan_yes B h T so lo hi N (by omega) (by omega) r hr G w2 d2.two).mono ?_
    rintro e w'' ⟨bo, bcap, rfl, hrow3, h2, ho2⟩
    refine ⟨bo, bcap, rfl, ho2.below (fun i hi => (d2.two.2 i hi).1) (by omega), ?_, ?_, by omega, _, _, _, d2.right h2 ho2, by show T.lim + 1 ≤ n + 1; omega, hst, hsn⟩
    · obtain ⟨_, _, e, hl, _⟩ := own_lies (own_keep hrow2 (fun a ha => ho2.keep _ (row_lt hrow2 ha).2 (fun hg => by
        have h3 := (d.two.2 _ hg).2
        have h4 := (row_lt hrow2 ha).1
        omega)))
      cases e
      exact hl
    · obtain ⟨_, _, e, hl, _⟩ := own_lies hrow3
      cases e
      exact hl
theorem tx_lens {t : Tx} (h : TxOk t) : LenC (cmdT t) := by
  have h1 := h.limA
  have h2 := h.limR
  have h3 := h.limW
  have h4 := h.lim
  exact ⟨by show t.asked.length ≤ 1000000; omega, by show t.rngs.length ≤ 1000000; omega, by show t.ws.length ≤ 1000000; omega, by show ([] : List (List Val)).length ≤ 1000000; simp, fun y hy => by cases hy⟩
/-- Both tell the same command. -/
theorem duo_cmd {B : Nat} {w : World} {g h : Nat} {so : Option Nat} {st : Sto} {n : Nat} (d : DuoS B w g h so st n) :
    Calls Try.prog 23 #[.pointer (some ⟨g, 0, none⟩)] w fun e w' => ∃ v, e = .returned v ∧ Below w.heap.size w w' ∧ Calls Try.prog 23 #[.pointer (some ⟨h, 0, none⟩)] w' fun e w'' => ∃ v', e = .returned v' ∧ Below w'.heap.size w' w'' ∧ Calls Try.prog 22 #[v, v'] w'' fun e w3 => e = .returned (.bool true) ∧ Below w''.heap.size w'' w3 := by
  obtain ⟨T, F, G, d, hl, hst, hsn⟩ := d
  refine (tcmd_any B g T so F w d.one).mono ?_
  rintro e w' ⟨ko, kc, ro, rc, wo, wc, rfl, a1, a2, a3, hb, _⟩
  refine ⟨_, rfl, hb, ?_⟩
  refine (tcmd_any B h T so G w' (d.below hb).two).mono ?_
  rintro e w'' ⟨ko', kc', ro', rc', wo', wc', rfl, b1, b2, b3, hb', _⟩
  refine ⟨_, rfl, hb', ?_⟩
  exact cmd_same (cmdT T) (tx_lens d.one.ok) ⟨ko, kc, ro, rc, wo, wc, none, 0⟩ ⟨ko', kc', ro', rc', wo', wc', none, 0⟩ w'' ⟨liesS_next a1 hb', liesQ_next a2 hb', liesW_next a3 hb', lies_no⟩ ⟨b1, b2, b3, lies_no⟩
theorem Num.DuoS.below {B : Nat} {w w' : World} {g h : Nat} {so : Option Nat} {st : Sto} {n : Nat} (d : DuoS B w g h so st n) (hb : Below w.heap.size w w') : DuoS B w' g h so st n := by
  obtain ⟨T, F, G, d, r⟩ := d
  exact ⟨T, F, G, d.below hb, r⟩
theorem Num.DuoS.sto {B : Nat} {w : World} {g h gs : Nat} {st : Sto} {n : Nat} (d : DuoS B w g h (some gs) st n) : ∃ B0, HoldP B0 w gs st := by
  obtain ⟨T, F, G, d, _, hst, _⟩ := d
  obtain ⟨B0, h⟩ := d.one.sto.hold
  rw [hst] at h
  exact ⟨B0, h⟩
theorem Num.DuoS.lt {B : Nat} {w : World} {g h : Nat} {so : Option Nat} {st : Sto} {n : Nat} (d : DuoS B w g h so st n) : B ≤ w.heap.size := by
  obtain ⟨T, F, G, d, _⟩ := d
  have := d.one.gB
  omega
/-- Two of them begin. -/
theorem duo_new (l : List Pr) (gs B0 : Nat) (w : World) (h : HoldP B0 w gs (bothS l)) :
    Calls Try.prog 11 #[.pointer (some ⟨gs, 0, none⟩), .int .i64 1000] w fun e w' => e = .returned (.pointer (some ⟨w.heap.size, 0, none⟩)) ∧ Below w.heap.size w w' ∧ Calls Try.prog 11 #[.pointer (some ⟨gs, 0, none⟩), .int .i64 1000] w' fun e w'' => ∃ g, e = .returned (.pointer (some ⟨g, 0, none⟩)) ∧ Below w.heap.size w w'' ∧ DuoS w.heap.size w'' w.heap.size g (some gs) (bothS l) 0 := by
  have hf : (bothS l).vs.length ≤ 500 := by have := bothS_few l; omega
  refine (tnew_some w.heap.size gs B0 (bothS l) 1000 hf (bothS_small l) w rfl h).mono ?_
  rintro e w' ⟨rfl, hT, hb⟩
  refine ⟨rfl, hb, ?_⟩
  refine (tnew_any w.heap.size (some gs) (bothS l) 1000 hf h.inv.1 (bothS_small l) w' hb.size (hT.sto)).mono ?_
  rintro e w'' ⟨rfl, hU, hb'⟩
  have hlt := hT.gB.2
  exact ⟨_, rfl, below_next hb (Nat.le_refl _) hb', _, _, _, ⟨hT.below hb', hU, fun i hi hg => by omega⟩, Nat.le_refl _, rfl, rfl⟩
theorem sto_scan (l : List Pr) (gs B0 : Nat) (r : List Pr) (hr : ScanIs (bothS l).vs 1000 ⟨#[]⟩ ⟨#[]⟩ r) (w : World) (h : HoldP B0 w gs (bothS l)) :
    Calls Try.prog 25 #[.pointer (some ⟨gs, 0, none⟩), .int .i64 1000, .string ⟨#[]⟩, .string ⟨#[]⟩, .int .i64 1000] w fun e w' => ∃ ao cap, e = .returned (.slice ao r.length cap) ∧ LiesPr w' w'.heap.size ao r ∧ Below w.heap.size w w' := by
  have hf := bothS_few l
  have h1 := scan_few hr
  have hs := sscan_any B0 gs (bothS l) 1000 ⟨#[]⟩ ⟨#[]⟩ 1000 (by omega) w h r hr
  rw [List.take_of_length_le (by show r.length ≤ 1000; omega)] at hs
  refine hs.mono ?_
  rintro e w' ⟨ao, cap, rfl, hrow, hb⟩
  obtain ⟨_, _, e, hl, _⟩ := own_lies hrow
  cases e
  exact ⟨ao, cap, rfl, hl, hb⟩
end Go.Proofs.Ytdmkmhjalcfchaa
