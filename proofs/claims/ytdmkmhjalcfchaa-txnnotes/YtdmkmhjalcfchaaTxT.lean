/-
  The steps of TxnNotes, by contracts.
-/
import Derived.Test.YtdmkmhjalcfchaaTxQ
import Derived.Test.YtdmkmhjalcfchaaTxS
namespace Go.Proofs.Ytdmkmhjalcfchaa
open Go.RowKit Go.Maps Num
open scoped Classical
set_option linter.unusedVariables false
set_option maxRecDepth 100000

/-- A transaction that never wrote; did it read k? -/
def Num.NoteS (B : Nat) (w : World) (g : Nat) (so : Option Nat) (st : Sto) (n : Nat) (k : ByteArray) (b : Bool) : Prop := ∃ t F, HoldT B w g t so F ∧ NoteT t st n ∧ readB t k = b
/-- What a call leaves: all that lies below B, and what came behind the world N. -/
def Num.LeftO (B N : Nat) (w w' : World) : Prop := Below B w w' ∧ ∀ (p : Addr) v, N ≤ p.block → w.cell? p = some v → w'.cell? p = some v
theorem rest_of {B : Nat} {w w1 w' : World} {F : Nat → Prop} (hF : ∀ i, F i → B ≤ i ∧ i < w.heap.size) (hB : B ≤ w1.heap.size) (ho : Out F w1 w') : LeftO B w.heap.size w1 w' :=
  ⟨ho.below (fun i hi => (hF i hi).1) hB, fun p v hp hc => out_cell ho (fun hf => by have := (hF _ hf).2; omega) hc⟩
theorem note_new (l : List Pr) (k : ByteArray) (gs B0 : Nat) (w : World) (h : HoldP B0 w gs (bothS l)) :
    Calls Try.prog 11 #[.pointer (some ⟨gs, 0, none⟩), .int .i64 1000] w fun e w' => e = .returned (.pointer (some ⟨w.heap.size, 0, none⟩)) ∧ Below w.heap.size w w' ∧ NoteS w.heap.size w' w.heap.size (some gs) (bothS l) 0 k false := by
  refine (own_new l gs B0 w h).mono ?_
  rintro e w' ⟨rfl, hT, hb⟩
  exact ⟨rfl, hb, _, _, hT, ⟨rfl, rfl, rfl, Nat.le_refl _⟩, rfl⟩
theorem note_getC {B : Nat} {w w1 : World} {g : Nat} {so : Option Nat} {st : Sto} {n : Nat} {k : ByteArray} {b : Bool} (h : NoteS B w g so st n k b) (hb : Below w.heap.size w w1) (hn : n ≤ 900) (x : ByteArray) (hx : x.size ≤ 900000) :
    Calls Try.prog 13 #[.pointer (some ⟨g, 0, none⟩), .string x] w1 fun e w' => ∃ s c, e = .returned (.tuple #[.string s, .bool c]) ∧ LeftO B w.heap.size w1 w' ∧ NoteS B w' g so st (n + 1) k (b || (x.toList == k.toList)) := by
  obtain ⟨t, F, hT, hN, hr⟩ := h
  have h1 := hT.below hb
  have hl := hN.lim
  obtain ⟨a1, a2⟩ := note_get hN x k
  refine (tget_any B g t so x hx (by omega) F w1 h1).mono ?_
  rintro e w' ⟨rfl, h2, ho⟩
  exact ⟨_, _, rfl, rest_of hT.2 (by have := h1.gB; omega) ho, _, _, h2, a1, by rw [a2, hr]⟩
theorem note_scanC {B : Nat} {w w1 : World} {g : Nat} {so : Option Nat} {st : Sto} {n : Nat} {k : ByteArray} {b : Bool} (h : NoteS B w g so st n k b) (hb : Below w.heap.size w w1) (hn : n ≤ 900) (lo hi : ByteArray) (N : Int) (hN1 : 1 ≤ N) :
    Calls Try.prog 16 #[.pointer (some ⟨g, 0, none⟩), .string lo, .string hi, .int .i64 N] w1 fun e w' => ∃ (told : List Pr) (ao : Option Addr) (cap : Nat), e = .returned (.slice ao told.length cap) ∧ LiesPr w' w'.heap.size ao told ∧ (∀ y ∈ told, y.key.size ≤ 900000) ∧ told.length ≤ 2000 ∧ LeftO B w.heap.size w1 w' ∧ NoteS B w' g so st (n + 1) k (b || withinB k lo (seenR lo hi told N).hi) := by
  obtain ⟨t, F, hT, hN, hr⟩ := h
  have h1 := hT.below hb
  have hl := hN.lim
  obtain ⟨r, hrs⟩ := scan_ex B w1 so t.st h1.sto t.snap lo hi
  obtain ⟨a1, a2⟩ := note_scan hN lo hi k N r
  obtain ⟨k1, k2⟩ := scanX_small (n := N) h1.ok hrs
  refine (tscan_yes B g t so lo hi N hN1 (by omega) r hrs F w1 h1).mono ?_
  rintro e w' ⟨ao, cap, rfl, hrow, h2, ho⟩
  refine ⟨_, ao, cap, rfl, ?_, k1, by omega, rest_of hT.2 (by have := h1.gB; omega) ho, _, _, h2, a1, by rw [a2, hr, seenR_lo]⟩
  obtain ⟨_, _, e, hl4, _⟩ := own_lies hrow
  cases e
  exact hl4
theorem Num.NoteS.below {B : Nat} {w w' : World} {g : Nat} {so : Option Nat} {st : Sto} {n : Nat} {k : ByteArray} {b : Bool} (h : NoteS B w g so st n k b) (hb : Below w.heap.size w w') : NoteS B w' g so st n k b := by
  obtain ⟨t, F, hT, r⟩ := h
  exact ⟨t, F, hT.below hb, r⟩
theorem Num.NoteS.more {B : Nat} {w : World} {g : Nat} {so : Option Nat} {st : Sto} {n : Nat} {k : ByteArray} {b : Bool} (h : NoteS B w g so st n k b) : NoteS B w g so st (n + 1) k b := by
  obtain ⟨t, F, hT, hN, hr⟩ := h
  exact ⟨t, F, hT, ⟨hN.st, hN.snap, hN.ws, Nat.le_succ_of_le hN.lim⟩, hr⟩
/-- Its command, and what the document's store says of it with a version more. -/
theorem note_cmd {B : Nat} {w : World} {g : Nat} {so : Option Nat} {st : Sto} {n : Nat} {k : ByteArray} {b : Bool} (h : NoteS B w g so st n k b) (hn : n ≤ 900) :
    Calls Try.prog 23 #[.pointer (some ⟨g, 0, none⟩)] w fun e w' => ∃ (K : List ByteArray) (R : List Rng) (ko ro wo : Option Addr) (kc rc wn wc : Nat), e = .returned (.agg #[.int .i64 0, .int .i64 0, .int .i64 0, .int .i64 1000, .slice ko K.length kc, .slice ro R.length rc, .slice wo wn wc, .int .i64 0, .int .i64 0, .int .i64 0, .string ⟨#[]⟩, .int .i64 0, .slice none 0 0]) ∧ (K.any (fun y => y.toList == k.toList) || R.any (fun g => withinB k g.lo g.hi)) = b ∧ K.length ≤ 1000 ∧ R.length ≤ 1000 ∧ w'.ownsRow w.heap.size 9 1 (.slice ko K.length kc) K.length (strCells K) ∧ w'.ownsRow w.heap.size 64 2 (.slice ro R.length rc) R.length (rngCells R) ∧ Below w.heap.size w w' := by
  obtain ⟨t, F, hT, hN, hr⟩ := h
  have hl := hN.lim
  have h1 := hT.ok.limA
  have h2 := hT.ok.limR
  refine (tcmd_own B g t so F w hT).mono ?_
  rintro e w' ⟨ko, kc, ro, rc, wo, wc, rfl, hE⟩
  refine ⟨t.asked, t.rngs, ko, ro, wo, kc, rc, t.ws.length, wc, ?_, hr, by omega, by omega, hE.rowK, hE.rowR, hE.below⟩
  rw [hN.snap]
/-- The document's store takes a version more; the command stays. -/
theorem note_put (l : List Pr) (k : ByteArray) (B2 gr : Nat) (w : World) (h : HoldR B2 w gr (bothS l)) :
    Calls Try.prog 28 #[.pointer (some ⟨gr, 0, none⟩), .int .i64 2000, .string k, .string ⟨#[109, 111, 114, 101]⟩] w fun e w' => ∃ n, e = .returned (.int .i64 n) ∧ (∃ st2, HoldR B2 w' gr st2 ∧ st2.vs.length ≤ 100 ∧ (∀ x, decide (1000 < lastT st2.vs x) = (x.toList == k.toList)) ∧ ∀ lo hi, sinceV st2.vs lo hi 1000 = withinB k lo hi) ∧ TurnR B2 w w' := by
  have hf := bothS_few l
  refine (rPut_any B2 gr (bothS l) 2000 k ⟨#[109, 111, 114, 101]⟩ (by omega) w h).mono ?_
  rintro e w' ⟨rfl, hR, hT⟩
  have hm := more_put l k
  refine ⟨_, rfl, ⟨_, hR, ?_, fun x => ?_, fun lo hi => ?_⟩, hT⟩
  · show (putS (bothS l) (moreV k)).2.vs.length ≤ 100
    rw [hm]
    simp
    omega
  · show decide (1000 < lastT (putS (bothS l) (moreV k)).2.vs x) = _
    rw [hm]
    exact last_more (times_few l) k x
  · show sinceV (putS (bothS l) (moreV k)).2.vs lo hi 1000 = _
    rw [hm]
    exact since_more (times_few l) k lo hi
theorem row_turn {B2 : Nat} {w w' : World} (hT : TurnR B2 w w') {B e sz n : Nat} {v : Value} {xs : List Value} (h : w.ownsRow B e sz v n xs) (h1 : e ≠ 89) (h2 : e ≠ 91) : w'.ownsRow B e sz v n xs := own_same h (fun i cur _ he => hT.keep i _ he ⟨h1, h2⟩)
end Go.Proofs.Ytdmkmhjalcfchaa
