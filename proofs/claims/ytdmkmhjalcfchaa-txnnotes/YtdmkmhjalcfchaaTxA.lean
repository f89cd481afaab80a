/-
  Contracts: a transaction begins (New), what it asks of its store, what it writes (write, Put, Del).
-/
import Derived.Test.YtdmkmhjalcfchaaTxMem
namespace Go.Proofs.Ytdmkmhjalcfchaa
open Go.RowKit Go.Maps Num
open scoped Classical
set_option linter.unusedVariables false
set_option maxRecDepth 100000

theorem big_le {n : Nat} (h : n ≤ 900000) : n ≤ maxLen := by unfold maxLen; omega
/-! The store, or none. -/
theorem nil_get (t : Int) (k : ByteArray) (w : World) : Calls Try.prog 36 #[.pointer none, .int .i64 t, .string k] w fun e w' => e = .returned (.tuple #[.string ⟨#[]⟩, .bool false]) ∧ w' = w := by
  go_enter Try.func36, Try.ntmps36
  go_wp2
  go_ret2
  exact ⟨rfl, rfl⟩
theorem nil_scan (t : Int) (k v : ByteArray) (n : Int) (w : World) : Calls Try.prog 25 #[.pointer none, .int .i64 t, .string k, .string v, .int .i64 n] w fun e w' => e = .returned (.slice none 0 0) ∧ w' = w := by
  go_enter Try.func25, Try.ntmps25
  go_wp2
  go_ret
  exact ⟨rfl, rfl⟩
theorem nil_size  (w : World) : Calls Try.prog 26 #[.pointer none] w fun e w' => e = .returned (.int .i64 0) ∧ w' = w := by
  go_enter Try.func26, Try.ntmps26
  go_wp2
  go_ret
  exact ⟨rfl, rfl⟩
theorem stoGet_any (B : Nat) (so : Option Nat) (st : Sto) (t : Int) (k : ByteArray) (hk : k.size ≤ maxLen) (hn : st.vs.length ≤ 500) (w : World) (h : StoB B w so st) :
    Calls Try.prog 36 #[stoV so, .int .i64 t, .string k] w fun e w' => e = .returned (.tuple #[.string (lookS (getV st.vs k t)), .bool (lookB (getV st.vs k t))]) ∧ Below w.heap.size w w' := by
  cases so with
  | none =>
    rcases h with ⟨_, h⟩ | ⟨s, B0, w0, e, _⟩
    · rw [h, show getV [] k t = none from rfl]
      refine (nil_get t k w).mono ?_
      rintro e w' ⟨rfl, rfl⟩
      exact ⟨rfl, Below.refl _ _⟩
    · cases e
  | some s =>
    obtain ⟨B0, h⟩ := h.hold
    exact sget_any B0 s st t k hk (by omega) w h
theorem stoSize_any (B : Nat) (so : Option Nat) (st : Sto) (w : World) (h : StoB B w so st) :
    Calls Try.prog 26 #[stoV so] w fun e w' => e = .returned (.int .i64 (st.vs.length : Int)) ∧ w' = w := by
  cases so with
  | none =>
    rcases h with ⟨_, h⟩ | ⟨s, B0, w0, e, _⟩
    · rw [h]
      exact nil_size w
    · cases e
  | some s =>
    obtain ⟨B0, h⟩ := h.hold
    exact ssize_any B0 s st w h
theorem scan_few {vs : List Ver} {t : Int} {lo hi : ByteArray} {r : List Pr} (h : ScanIs vs t lo hi r) : r.length ≤ vs.length :=
  few_keys r vs h.1 (fun x hx => by
    have hne := getV_key ((h.2 x).1 hx).2
    obtain ⟨v, hv⟩ := List.exists_mem_of_ne_nil _ hne
    obtain ⟨h1, h2⟩ := keyV_mem.1 hv
    exact ⟨v, h1, h2⟩)
theorem stoScan_any (B : Nat) (so : Option Nat) (st : Sto) (t : Int) (lo hi : ByteArray) (hn : st.vs.length ≤ 500) (w : World) (h : StoB B w so st) (r : List Pr) (hr : ScanIs st.vs t lo hi r) :
    Calls Try.prog 25 #[stoV so, .int .i64 t, .string lo, .string hi, .int .i64 (st.vs.length : Int)] w fun e w' => ∃ ao cap, e = .returned (.slice ao r.length cap) ∧ w'.ownsRow w.heap.size 52 2 (.slice ao r.length cap) r.length (prCells r) ∧ Below w.heap.size w w' := by
  have hf := scan_few hr
  cases so with
  | none =>
    rcases h with ⟨_, h⟩ | ⟨s, B0, w0, e, _⟩
    · rw [h] at hf ⊢
      obtain rfl : r = [] := List.eq_nil_of_length_eq_zero (by simpa using hf)
      refine (nil_scan t lo hi _ w).mono ?_
      rintro e w' ⟨rfl, rfl⟩
      exact ⟨none, 0, rfl, World.ownsRow_nil _ _ _ _, Below.refl _ _⟩
    · cases e
  | some s =>
    obtain ⟨B0, h⟩ := h.hold
    have hs := sscan_any B0 s st t lo hi (st.vs.length : Int) (by omega) w h r hr
    rw [Int.toNat_natCast, List.take_of_length_le hf] at hs
    exact hs
/-! New. -/
theorem tnew_any (B : Nat) (so : Option Nat) (st : Sto) (snap : Int) (hn : st.vs.length ≤ 500) (hu : Ups st.vs) (hks : ∀ v ∈ st.vs, v.key.size ≤ 900000) (w : World) (hB : B ≤ w.heap.size) (h : StoB B w so st) :
    Calls Try.prog 11 #[stoV so, .int .i64 snap] w fun e w' => e = .returned (.pointer (some ⟨w.heap.size, 0, none⟩)) ∧ HoldT B w' w.heap.size ⟨st, snap, [], [], [], 0⟩ so (fun i => i = w.heap.size) ∧ Below w.heap.size w w' := by
  obtain ⟨po, hsv⟩ : ∃ po, stoV so = .pointer po := ⟨_, rfl⟩
  have hend : HoldT B (w.alloc (.cells #[stoV so, .int .i64 snap, .map none, .slice none 0 0, .map none] 77)) w.heap.size ⟨st, snap, [], [], [], 0⟩ so (fun i => i = w.heap.size) := by
    refine ⟨⟨none, none, none, 0, ⟨heap_new w _, hB, h.next (((Below.refl _ w).alloc (Nat.le_refl _) _).mono hB), .inl ⟨rfl, rfl⟩, World.ownsRow_nil _ _ _ _, .inl ⟨rfl, rfl⟩, fun i hi => (by cases hi), fun i hi => (by cases hi), fun i hi => (by cases hi), ⟨by simp [UpT], by simp [UpW], hn, hu, by simp, by simp, hks, Nat.le_refl _, Nat.le_refl _, Nat.le_refl _, Nat.zero_le _⟩⟩, ?_⟩, ?_⟩
    · rintro i (hi | hi | hi | ⟨a, ha, _⟩)
      · exact hi
      · cases hi
      · cases hi
      · cases ha
    · rintro i rfl
      exact ⟨hB, by simp⟩
  have hb : Below w.heap.size w (w.alloc (.cells #[stoV so, .int .i64 snap, .map none, .slice none 0 0, .map none] 77)) := (Below.refl _ w).alloc (Nat.le_refl _) _
  rw [hsv] at hend hb ⊢
  clear h hsv
  go_enter Try.func11, Try.ntmps11
  go_wp2
  go_ret
  exact ⟨rfl, hend, hb⟩
/-! Maps with a key more. -/
theorem askG_put {w : World} {gm n : Nat} {K : List ByteArray} {D : DataW Value} {k : ByteArray} {v : Value} (hD : Maps.IsMap D) (hh : ∀ k : ByteArray, Maps.has D (litK k) = true ↔ k ∈ K) (hm : OwnM w gm n (D.put (litK k) (.held v))) : AskG w gm n (insA K k) (D.put (litK k) (.held v)) := by
  refine ⟨hm, fun x => ?_⟩
  rw [insA_mem]
  by_cases e : x = k
  · subst e
    simp [has_put_same hD (litK_key x) _]
  · rw [has_put_other (litK_ne e), hh]
    simp [e]
theorem wrsG_put {w : World} {gm n : Nat} {ws : List Wrt} {D : DataW Value} {x : Wrt} (hu : UpW ws) (hD : Maps.IsMap D) (hh : ∀ k : ByteArray, Maps.has D (litK k) = true ↔ ∃ y ∈ ws, y.key = k) (hat : ∀ y ∈ ws, ∀ z, D.atKey (litK y.key) z = .held (wrtV y)) (hm : OwnM w gm n (D.put (litK x.key) (.held (wrtV x)))) : WrsG w gm n (putW ws x) (D.put (litK x.key) (.held (wrtV x))) := by
  refine ⟨hm, fun k => ?_, fun y hy z => ?_⟩
  · by_cases e : k = x.key
    · subst e
      rw [has_put_same hD (litK_key _) _]
      exact ⟨fun _ => ⟨x, (putW_mem hu).2 (.inl rfl), rfl⟩, fun _ => rfl⟩
    · rw [has_put_other (litK_ne e), hh]
      constructor
      · rintro ⟨y, hy, rfl⟩
        exact ⟨y, (putW_mem hu).2 (.inr ⟨hy, e⟩), rfl⟩
      · rintro ⟨y, hy, rfl⟩
        rcases (putW_mem hu).1 hy with e2 | ⟨hy2, _⟩
        · rw [e2] at e
          exact absurd rfl e
        · exact ⟨y, hy2, rfl⟩
  · rcases (putW_mem hu).1 hy with rfl | ⟨hy2, hne⟩
    · exact atKey_put_same hD (litK_key _) _ _
    · rw [atKey_put_other (litK_ne hne)]
      exact hat y hy2 z
/-! A write. -/
abbrev Num.wrtBox (x : Wrt) : Obj := .cells #[.string x.key, .string x.val, .bool x.del] 54
theorem wmap_some (gl : Nat) (W : World) : (binOp BinOp.eql 75 (.map (some gl)) (.map none)).run Try.prog W = .ok (.bool false) W := by kernel_rfl
theorem wmap_nil (W : World) : (binOp BinOp.eql 75 (.map none) (.map none)).run Try.prog W = .ok (.bool true) W := by kernel_rfl
theorem box_ne {w : World} {a b : Nat} {cs : Array Value} {t : TypeId} {fr : Nat × Nat} {es : Array MapEntry} {c : Nat} (ha : w.heap[a]? = some (.cells cs t fr)) (hb : w.heap[b]? = some (.map es c)) : a ≠ b := by
  rintro rfl
  rw [ha] at hb
  cases hb
theorem row_ne {w : World} {B e sz n : Nat} {ao : Option Addr} {m cap : Nat} {xs : List Value} {es : Array MapEntry} {c b : Nat} (h : w.ownsRow B e sz (.slice ao m cap) n xs) (hb : w.heap[b]? = some (.map es c)) {a : Addr} (ha : ao = some a) : a.block ≠ b := by
  rintro rfl
  rcases h.2 with ⟨hv, _⟩ | ⟨g, cap', cur, hv, hB, hg, _⟩
  · cases hv
    cases ha
  · cases hv
    cases ha
    rw [hg] at hb
    cases hb
theorem row_far {w : World} {B e sz n : Nat} {ao : Option Addr} {m cap : Nat} {xs : List Value} {cs : Array Value} {t : TypeId} {fr : Nat × Nat} {b : Nat} (h : w.ownsRow B e sz (.slice ao m cap) n xs) (hb : w.heap[b]? = some (.cells cs t fr)) (ht : t ≠ e) {a : Addr} (ha : ao = some a) : a.block ≠ b := by
  rintro rfl
  rcases h.2 with ⟨hv, _⟩ | ⟨g, cap', cur, hv, hB, hg, _⟩
  · cases hv
    cases ha
  · cases hv
    cases ha
    rw [hg] at hb
    cases hb
    exact ht rfl
end Go.Proofs.Ytdmkmhjalcfchaa
