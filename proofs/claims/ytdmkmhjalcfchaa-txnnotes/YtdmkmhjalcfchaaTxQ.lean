/-
  The steps of TxnOwn, by contracts.
-/
import Derived.Test.YtdmkmhjalcfchaaTxN
import Derived.Test.YtdmkmhjalcfchaaTxP
namespace Go.Proofs.Ytdmkmhjalcfchaa
open Go.RowKit Go.Maps Num
open scoped Classical
set_option linter.unusedVariables false
set_option maxRecDepth 100000

theorem next_out {w a b : World} {F : Nat → Prop} (h : Below w.heap.size w a) (ho : Out F a b) (hF : ∀ i, F i → w.heap.size ≤ i) : Below w.heap.size w b := h.trans (ho.below hF h.size)
theorem out_cell {F : Nat → Prop} {w w' : World} (h : Out F w w') {p : Addr} {v : Value} (hp : ¬ F p.block) (hc : w.cell? p = some v) : w'.cell? p = some v := (World.cell?_of_block (h.keep p.block (cell_lt hc) hp)).trans hc
theorem tell_put (k v : ByteArray) : tellW (wP k v) = [⟨k, v⟩] := rfl
theorem tell_del (k : ByteArray) : tellW (wD k) = [] := rfl
/-- What a scan of the store tells, whatever it is. -/
theorem scan_ex (B : Nat) (w : World) (so : Option Nat) (st : Sto) (h : StoB B w so st) (t : Int) (lo hi : ByteArray) : ∃ r, ScanIs st.vs t lo hi r := by
  rcases h with ⟨_, h⟩ | ⟨s, B0, w0, _, ⟨gm, D, blk, capf, ao, cap, ps, h⟩, _⟩
  · refine ⟨[], by simp [Rises], fun x => ?_⟩
    rw [h, show getV [] x.key t = none from rfl]
    simp
  · exact ⟨_, scan_is h.keys t lo hi⟩
theorem bothS_few (l : List Pr) : (bothS l).vs.length ≤ 60 := by
  have := (both_ok l (min l.length 60)).len
  unfold bothS
  omega
theorem bothS_small (l : List Pr) : ∀ v ∈ (bothS l).vs, v.key.size ≤ 900000 := fun v hv => by
  have := (both_ok l (min l.length 60)).small v hv
  omega
theorem own_new (l : List Pr) (s B0 : Nat) (w : World) (h : HoldP B0 w s (bothS l)) :
    Calls Try.prog 11 #[.pointer (some ⟨s, 0, none⟩), .int .i64 1000] w fun e w' => e = .returned (.pointer (some ⟨w.heap.size, 0, none⟩)) ∧ HoldT w.heap.size w' w.heap.size (tx0 (bothS l)) (some s) (fun i => i = w.heap.size) ∧ Below w.heap.size w w' :=
  tnew_some w.heap.size s B0 (bothS l) 1000 (by have := bothS_few l; omega) (bothS_small l) w rfl h
theorem own_put (B g : Nat) (st : Sto) (so : Option Nat) (k v : ByteArray) (hk : k.size ≤ 900000) (F : Nat → Prop) (w : World) (h : HoldT B w g (tx0 st) so F) :
    Calls Try.prog 18 #[.pointer (some ⟨g, 0, none⟩), .string k, .string v] w fun e w' => e = .returned (.tuple #[]) ∧ ∃ t, OwnT t st (wP k v) 1 ∧ HoldT B w' g t so (Grw F w w') ∧ Out F w w' := by
  refine (tput_any B g (tx0 st) so k v hk (by show (0 : Nat) ≤ 999; decide) F w h).mono ?_
  rintro e w' ⟨rfl, h1, h2⟩
  exact ⟨rfl, _, ownT_put st k v, h1, h2⟩
theorem own_get (B g : Nat) (t : Tx) (st : Sto) (x : Wrt) (n : Nat) (hn : n ≤ 900) (ht : OwnT t st x n) (so : Option Nat) (hk : x.key.size ≤ 900000) (F : Nat → Prop) (w : World) (h : HoldT B w g t so F) :
    Calls Try.prog 13 #[.pointer (some ⟨g, 0, none⟩), .string x.key] w fun e w' => e = .returned (.tuple #[.string x.val, .bool (!x.del)]) ∧ ∃ t', OwnT t' st x (n + 1) ∧ HoldT B w' g t' so (Grw F w w') ∧ Out F w w' := by
  obtain ⟨h1, h2⟩ := ownT_get ht
  refine (tget_any B g t so x.key hk (by have := ht.lim; omega) F w h).mono ?_
  rintro e w' ⟨rfl, h3, h4⟩
  rw [h1]
  exact ⟨rfl, _, h2, h3, h4⟩
theorem own_del (B g : Nat) (t : Tx) (st : Sto) (k v : ByteArray) (n : Nat) (hn : n ≤ 900) (ht : OwnT t st (wP k v) n) (so : Option Nat) (hk : k.size ≤ 900000) (F : Nat → Prop) (w : World) (h : HoldT B w g t so F) :
    Calls Try.prog 20 #[.pointer (some ⟨g, 0, none⟩), .string k] w fun e w' => e = .returned (.tuple #[]) ∧ ∃ t', OwnT t' st (wD k) (n + 1) ∧ HoldT B w' g t' so (Grw F w w') ∧ Out F w w' := by
  refine (tdel_any B g t so k hk (by have := ht.lim; omega) F w h).mono ?_
  rintro e w' ⟨rfl, h1, h2⟩
  exact ⟨rfl, _, ownT_del ht, h1, h2⟩
theorem own_scan (B g : Nat) (t : Tx) (st : Sto) (x : Wrt) (n : Nat) (hn : n ≤ 900) (ht : OwnT t st x n) (so : Option Nat) (F : Nat → Prop) (w : World) (h : HoldT B w g t so F) :
    Calls Try.prog 16 #[.pointer (some ⟨g, 0, none⟩), .string x.key, .string (x.key ++ ⟨#[0]⟩), .int .i64 5] w fun e w' => ∃ ao cap, e = .returned (.slice ao (tellW x).length cap) ∧ w'.ownsRow w.heap.size 52 2 (.slice ao (tellW x).length cap) (tellW x).length (prCells (tellW x)) ∧ (∃ t', OwnT t' st x (n + 1) ∧ HoldT B w' g t' so (Grw F w w')) ∧ Out F w w' := by
  obtain ⟨r, hr⟩ := scan_ex B w so t.st h.sto t.snap x.key (zeroB x.key)
  obtain ⟨h1, h2⟩ := ownT_scan ht (by rw [← ht.st, ← ht.snap]; exact hr)
  have hc := tscan_yes B g t so x.key (zeroB x.key) 5 (by decide) (by have := ht.lim; omega) r hr F w h
  rw [h1] at hc
  refine hc.mono ?_
  rintro e w' ⟨ao, cap, rfl, hrow, h3, h4⟩
  exact ⟨ao, cap, rfl, hrow, ⟨_, h2, h3⟩, h4⟩
theorem own_cmd (B g : Nat) (t : Tx) (st : Sto) (x : Wrt) (n : Nat) (ht : OwnT t st x n) (so : Option Nat) (F : Nat → Prop) (w : World) (h : HoldT B w g t so F) :
    Calls Try.prog 23 #[.pointer (some ⟨g, 0, none⟩)] w fun e w' => ∃ ko kc ro rn rc a wc, e = .returned (.agg #[.int .i64 0, .int .i64 0, .int .i64 0, .int .i64 1000, .slice ko 0 kc, .slice ro rn rc, .slice (some a) 1 wc, .int .i64 0, .int .i64 0, .int .i64 0, .string ⟨#[]⟩, .int .i64 0, .slice none 0 0]) ∧ w'.cell? a = some (.string x.key) ∧ w'.cell? ⟨a.block, a.off + 1, none⟩ = some (.string x.val) ∧ w'.cell? ⟨a.block, a.off + 2, none⟩ = some (.bool x.del) ∧ w.heap.size ≤ a.block ∧ a.block < w'.heap.size ∧ Below w.heap.size w w' := by
  refine (tcmd_any B g t so F w h).mono ?_
  rintro e w5 ⟨ko, kc, ro, rc, wo, wc, rfl, _, _, hw, hb5, hnew⟩
  rw [ht.ws] at hw
  obtain ⟨a, rfl, hab, e0, e1, e2⟩ := lies_head hw
  refine ⟨ko, kc, ro, t.rngs.length, rc, a, wc, ?_, e0, e1, e2, hnew a rfl, hab, hb5⟩
  rw [ht.ws, ht.asked, ht.snap]
  rfl
theorem own_get1 (B g : Nat) (t : Tx) (st : Sto) (k v : ByteArray) (n : Nat) (hn : n ≤ 900) (ht : OwnT t st (wP k v) n) (so : Option Nat) (hk : k.size ≤ 900000) (F : Nat → Prop) (w : World) (h : HoldT B w g t so F) :
    Calls Try.prog 13 #[.pointer (some ⟨g, 0, none⟩), .string k] w fun e w' => e = .returned (.tuple #[.string v, .bool true]) ∧ ∃ t', OwnT t' st (wP k v) (n + 1) ∧ HoldT B w' g t' so (Grw F w w') ∧ Out F w w' := own_get B g t st (wP k v) n hn ht so hk F w h
theorem own_get2 (B g : Nat) (t : Tx) (st : Sto) (k : ByteArray) (n : Nat) (hn : n ≤ 900) (ht : OwnT t st (wD k) n) (so : Option Nat) (hk : k.size ≤ 900000) (F : Nat → Prop) (w : World) (h : HoldT B w g t so F) :
    Calls Try.prog 13 #[.pointer (some ⟨g, 0, none⟩), .string k] w fun e w' => e = .returned (.tuple #[.string ⟨#[]⟩, .bool false]) ∧ ∃ t', OwnT t' st (wD k) (n + 1) ∧ HoldT B w' g t' so (Grw F w w') ∧ Out F w w' := own_get B g t st (wD k) n hn ht so hk F w h
theorem own_scan1 (B g : Nat) (t : Tx) (st : Sto) (k v : ByteArray) (n : Nat) (hn : n ≤ 900) (ht : OwnT t st (wP k v) n) (so : Option Nat) (F : Nat → Prop) (w : World) (h : HoldT B w g t so F) :
    Calls Try.prog 16 #[.pointer (some ⟨g, 0, none⟩), .string k, .string (k ++ ⟨#[0]⟩), .int .i64 5] w fun e w' => ∃ a cap, e = .returned (.slice (some a) 1 cap) ∧ w'.cell? a = some (.string k) ∧ w'.cell? ⟨a.block, a.off + 1, none⟩ = some (.string v) ∧ (∃ t', OwnT t' st (wP k v) (n + 1) ∧ HoldT B w' g t' so (Grw F w w')) ∧ Out F w w' := by
  have hc := own_scan B g t st (wP k v) n hn ht so F w h
  rw [tell_put] at hc
  refine Calls.mono (hc : Calls Try.prog 16 #[.pointer (some ⟨g, 0, none⟩), .string k, .string (k ++ ⟨#[0]⟩), .int .i64 5] w _) ?_
  rintro e w' ⟨ao, cap, rfl, hrow, h3, h4⟩
  obtain ⟨_, _, e, hl, _⟩ := own_lies hrow
  cases e
  obtain ⟨a, rfl, _, e0, e1⟩ := lies_head hl
  exact ⟨a, cap, rfl, e0, e1, h3, h4⟩
theorem own_scan2 (B g : Nat) (t : Tx) (st : Sto) (k : ByteArray) (n : Nat) (hn : n ≤ 900) (ht : OwnT t st (wD k) n) (so : Option Nat) (F : Nat → Prop) (w : World) (h : HoldT B w g t so F) :
    Calls Try.prog 16 #[.pointer (some ⟨g, 0, none⟩), .string k, .string (k ++ ⟨#[0]⟩), .int .i64 5] w fun e w' => ∃ ao cap, e = .returned (.slice ao 0 cap) ∧ Out F w w' := by
  have hc := own_scan B g t st (wD k) n hn ht so F w h
  rw [tell_del] at hc
  refine Calls.mono (hc : Calls Try.prog 16 #[.pointer (some ⟨g, 0, none⟩), .string k, .string (k ++ ⟨#[0]⟩), .int .i64 5] w _) ?_
  rintro e w' ⟨ao, cap, rfl, hrow, h3, h4⟩
  exact ⟨ao, cap, rfl, h4⟩
theorem own_cmd2 (B g : Nat) (t : Tx) (st : Sto) (k : ByteArray) (n : Nat) (ht : OwnT t st (wD k) n) (so : Option Nat) (F : Nat → Prop) (w : World) (h : HoldT B w g t so F) :
    Calls Try.prog 23 #[.pointer (some ⟨g, 0, none⟩)] w fun e w' => ∃ ko kc ro rn rc a wc, e = .returned (.agg #[.int .i64 0, .int .i64 0, .int .i64 0, .int .i64 1000, .slice ko 0 kc, .slice ro rn rc, .slice (some a) 1 wc, .int .i64 0, .int .i64 0, .int .i64 0, .string ⟨#[]⟩, .int .i64 0, .slice none 0 0]) ∧ w'.cell? a = some (.string k) ∧ w'.cell? ⟨a.block, a.off + 1, none⟩ = some (.string ⟨#[]⟩) ∧ w'.cell? ⟨a.block, a.off + 2, none⟩ = some (.bool true) ∧ w.heap.size ≤ a.block ∧ a.block < w'.heap.size ∧ Below w.heap.size w w' := own_cmd B g t st (wD k) n ht so F w h
end Go.Proofs.Ytdmkmhjalcfchaa
