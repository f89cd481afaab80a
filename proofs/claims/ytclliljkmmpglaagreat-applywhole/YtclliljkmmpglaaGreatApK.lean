/-
  What an entry's bytes are, as the program reads them; what the nine checks tell of it.
-/
import Derived.Test.YtclliljkmmpglaaGreatApG
import Derived.Test.YtclliljkmmpglaaGreatCGet
namespace Go.Proofs.YtclliljkmmpglaaGreat
open Go.RowKit Go.Maps Num
open scoped Classical
set_option linter.unusedVariables false
set_option maxRecDepth 100000

/-- Bytes are this command, or none (then: the one with nothing, and 3). -/
def Num.GetIs (s : ByteArray) (c : Cmd) (form : Int) : Prop := (form = 0 ∧ CmdOk c ∧ CmdIn c ∧ (cmdB c).length ≤ 19996 ∧ str (sealL (cmdB c)) = s) ∨ (form = 3 ∧ c = noCmd ∧ ∀ y, CmdOk y → CmdIn y → (cmdB y).length ≤ 19996 → str (sealL (cmdB y)) ≠ s)
def Num.noCs : Cs := ⟨none, 0, none, 0, none, 0, none, 0⟩
theorem no_ok : CmdOk noCmd := cmd0_ok
theorem no_own (B : Nat) (w : World) : OwnC B w noCs noCmd := ⟨World.ownsRow_nil _ _ _ _, OwnS.nil _ _ _ _ _, OwnS.nil _ _ _ _ _, OwnS.nil _ _ _ _ _⟩
theorem getIs_ok {s : ByteArray} {c : Cmd} {form : Int} (h : GetIs s c form) : CmdOk c := by
  rcases h with ⟨_, h, _⟩ | ⟨_, rfl, _⟩
  · exact h
  · exact no_ok
theorem seal_inj {a b : List UInt8} (h : str (sealL a) = str (sealL b)) : a = b := by
  have h1 : sealL a = sealL b := by
    have := congrArg (fun x : ByteArray => x.data.toList) h
    simpa [str] using this
  have h2 : openL (sealL a) = some a := open_seal a
  rw [h1, open_seal b] at h2
  exact (Option.some.inj h2).symm
theorem open_len4 (s : ByteArray) (plain : List UInt8) (h : openL s.data.toList = some plain) : plain.length + 4 = s.size := by
  have hd : s.data.toList.length = s.size := rfl
  unfold openL at h
  split at h
  · cases h
  · split at h
    · cases h
      rw [List.length_take]
      omega
    · cases h
theorem rdCmd_len {plain : List UInt8} {y : Cmd} {r : List UInt8} (h : rdCmd plain = some (y, r)) : (cmdB y).length + r.length = plain.length := by
  have h2 := rdCmd_ex plain (y, r) h
  exact h2
theorem rdCmd_in' {plain : List UInt8} {y : Cmd} {r : List UInt8} (h : rdCmd plain = some (y, r)) : CmdIn y := rdCmd_in plain (y, r) h
/-- What the program's reader tells. -/
theorem gget_any (s : ByteArray) : ∃ c form, GetIs s c form ∧ ∀ w, Calls Tryz.prog 35 #[.string s] w fun e w' => ∃ t : Cs, e = .returned (.tuple #[cmV t c, .int .i64 form]) ∧ OwnC w.heap.size w' t c ∧ Below w.heap.size w w' := by
  have hno : (∀ y, CmdOk y → CmdIn y → (cmdB y).length ≤ 19996 → str (sealL (cmdB y)) ≠ s) → (∀ w, Calls Tryz.prog 35 #[.string s] w fun e w' => e = .returned (.tuple #[.agg #[.int .i64 0, .int .i64 0, .int .i64 0, .int .i64 0, .slice none 0 0, .slice none 0 0, .slice none 0 0, .int .i64 0, .int .i64 0, .int .i64 0, .string ⟨#[]⟩, .int .i64 0, .slice none 0 0], .int .i64 3]) ∧ Below w.heap.size w w') → ∃ c form, GetIs s c form ∧ ∀ w, Calls Tryz.prog 35 #[.string s] w fun e w' => ∃ t : Cs, e = .returned (.tuple #[cmV t c, .int .i64 form]) ∧ OwnC w.heap.size w' t c ∧ Below w.heap.size w w' := fun h1 h2 =>
    ⟨noCmd, 3, .inr ⟨rfl, rfl, h1⟩, fun w => (h2 w).mono fun e w' ⟨he, hb⟩ => ⟨noCs, he, no_own _ _, hb⟩⟩
  have hlen : ∀ y : Cmd, (cmdB y).length ≤ 19996 → (str (sealL (cmdB y))).size ≤ 20000 := fun y hy => by
    have h1 : (str (sealL (cmdB y))).size = (sealL (cmdB y)).length := rfl
    rw [h1]
    have h2 : (sealL (cmdB y)).length = (cmdB y).length + 4 := by simp [sealL, be4]
    omega
  have hopen : ∀ y : Cmd, openL (str (sealL (cmdB y))).data.toList = some (cmdB y) := fun y => open_seal (cmdB y)
  by_cases h2 : 20000 < (s.size : Int)
  · exact hno (fun y _ _ hy e => by have := hlen y hy; rw [e] at this; omega) (dget_long s h2)
  · cases ho : openL s.data.toList with
    | none =>
      exact hno (fun y _ _ hy e => by have := hopen y; rw [e, ho] at this; cases this) (dget_none s h2 ho)
    | some plain =>
      have hp := open_len4 s plain ho
      have heq : ∀ y : Cmd, str (sealL (cmdB y)) = s → cmdB y = plain := fun y e => by
        have := hopen y
        rw [e, ho] at this
        exact (Option.some.inj this).symm
      cases hr : rdCmd plain with
      | none =>
        exact hno (fun y h1 h3 hy e => by
          have h4 := rdCmd_fwd y h1 h3
          rw [heq y e, hr] at h4
          cases h4) (dget_panic s h2 plain ho (by omega) hr)
      | some q =>
        obtain ⟨y, r⟩ := q
        have hex : (cmdB y).length + r.length = plain.length := rdCmd_len hr
        have hone : ∀ y', CmdOk y' → CmdIn y' → str (sealL (cmdB y')) = s → y' = y := fun y' h1 h3 e => by
          have h4 := rdCmd_fwd y' h1 h3
          rw [heq y' e, hr] at h4
          cases h4
          rfl
        by_cases hok : CmdOk y
        · have hpy := dput_yes y hok (by omega)
          by_cases he : str (sealL (cmdB y)) = s
          · rw [he] at hpy
            exact ⟨y, 0, .inl ⟨rfl, hok, rdCmd_in' hr, by omega, he⟩, fun w => dget_yes s h2 plain ho (by omega) y r hr hpy w⟩
          · exact hno (fun y' h1 h3 _ e => he (by rw [hone y' h1 h3 e] at e; exact e)) (dget_bad s h2 plain ho (by omega) y r hr _ _ hpy he)
        · refine hno (fun y' h1 h3 _ e => hok (by rw [hone y' h1 h3 e] at h1; exact h1)) (dget_bad s h2 plain ho (by omega) y r hr _ _ (dput_no y hok) ?_)
          intro e
          rw [← e] at hp
          have : (⟨#[]⟩ : ByteArray).size = 0 := rfl
          omega
theorem getIs_one {s : ByteArray} {c c' : Cmd} {f f' : Int} (h : GetIs s c f) (h' : GetIs s c' f') : c = c' ∧ f = f' := by
  rcases h with ⟨rfl, h1, h2, h3, h4⟩ | ⟨rfl, rfl, h1⟩
  · rcases h' with ⟨rfl, k1, k2, k3, k4⟩ | ⟨rfl, rfl, k1⟩
    · refine ⟨?_, rfl⟩
      have e := seal_inj (h4.trans k4.symm)
      have r1 := rdCmd_fwd c h1 h2
      have r2 := rdCmd_fwd c' k1 k2
      rw [e, r2] at r1
      cases r1
      rfl
    · exact absurd h4 (k1 c h1 h2 h3)
  · rcases h' with ⟨rfl, k1, k2, k3, k4⟩ | ⟨rfl, rfl, k1⟩
    · exact absurd k4 (h1 c' k1 k2 k3)
    · exact ⟨rfl, rfl⟩
/-! Bounds. -/
theorem keys_bound {l : List ByteArray} (h : KeysOk' l) : l.length ≤ 200 ∧ ∀ k ∈ l, k.size ≤ 1000 := by
  refine ⟨by have := h.1; omega, fun k hk => ?_⟩
  obtain ⟨i, hi⟩ := List.getElem?_of_mem hk
  have := (h.2 i (List.getElem?_eq_some_iff.1 hi).1 k hi).1
  omega
theorem wrts_bound {l : List Wrt} (h : WrtsOk l) : l.length ≤ 200 ∧ ∀ x ∈ l, x.key.size ≤ 1000 := by
  have h3 := keys_bound h.2.2
  refine ⟨by have := h.1; omega, fun x hx => h3.2 x.key (List.mem_map.2 ⟨x, hx, rfl⟩)⟩
theorem chk_env (w : World) (g : Nat) (t : Int) (s : Cs) (c : Cmd) (form : Int) : Env (chkW w g t s c form) w.heap.size (w.heap.size + 1) (w.heap.size + 2) (w.heap.size + 3) g t s c form :=
  ⟨alloc_box _ (alloc_box _ (alloc_box _ (heap_new w _))), alloc_box _ (alloc_box _ (heap_newB _ _ _ (by simp))), alloc_box _ (heap_newB _ _ _ (by simp)), heap_newB _ _ _ (by simp)⟩
theorem chk_below (w : World) (g : Nat) (t : Int) (s : Cs) (c : Cmd) (form : Int) : Below w.heap.size w (chkW w g t s c form) := ((((Below.refl _ w).alloc (Nat.le_refl _) _).alloc (by simp) _).alloc (by simp; omega) _).alloc (by simp; omega) _
theorem jud_do (B g gs cap : Nat) (m : Mac) (ao : Option Addr) (lv : Value) (t : Int) (s : Cs) (c : Cmd) (form : Int) (hok : CmdOk c) (w : World) (h : HoldM B w g m gs ao cap lv) (hl : LiesC w w.heap.size s c) (ty : TypeId) :
    Calls Tryz.prog 36 #[.slice (some ⟨w.heap.size + 4, 0, none⟩) 9 9] ((chkW w g t s c form).alloc (.cells (chkV w.heap.size (w.heap.size + 1) (w.heap.size + 2) (w.heap.size + 3)) ty (0, 0))) fun e w' => e = .returned (verdV (verd m t c form)) ∧ Below w.heap.size w w' := by
  have hb1 := chk_below w g t s c form
  have hb2 : Below w.heap.size w ((chkW w g t s c form).alloc (.cells (chkV w.heap.size (w.heap.size + 1) (w.heap.size + 2) (w.heap.size + 3)) ty (0, 0))) := hb1.alloc hb1.size _
  have he1 := chk_env w g t s c form
  have he2 := he1.below ((Below.refl _ _).alloc (Nat.le_refl _) (.cells (chkV w.heap.size (w.heap.size + 1) (w.heap.size + 2) (w.heap.size + 3)) ty (0, 0)))
  have hrow : ((chkW w g t s c form).alloc (.cells (chkV w.heap.size (w.heap.size + 1) (w.heap.size + 2) (w.heap.size + 3)) ty (0, 0))).heap[w.heap.size + 4]? = some (.cells (chkV w.heap.size (w.heap.size + 1) (w.heap.size + 2) (w.heap.size + 3)) ty (0, 0)) := heap_newB _ _ _ (by simp)
  have h2 := h.below hb2
  have hl2 := liesC_next hl hb2
  generalize (chkW w g t s c form).alloc (.cells (chkV w.heap.size (w.heap.size + 1) (w.heap.size + 2) (w.heap.size + 3)) ty (0, 0)) = X at *
  obtain ⟨k1, k2⟩ := keys_bound hok.keys
  obtain ⟨w1, w2⟩ := wrts_bound hok.wrts
  have r1 : c.rngs.length ≤ 200 := by have := hok.rngs.1; omega
  have hcl := hok.nums.client
  refine (judge_any (w.heap.size + 4) w.heap.size (w.heap.size + 1) (w.heap.size + 2) (w.heap.size + 3) (checkV m t c form) X (Array.getElem?_eq_some_iff.1 hrow).1 (fun k v hv => box_cell hrow k v hv)
    (fun W hb => chk1_any B g gs cap _ _ _ _ m ao lv t s c form W (h2.below hb) (he2.below hb)) (fun W hb => chk2_any B g gs cap _ _ _ _ m ao lv t s c form W (h2.below hb) (he2.below hb)) (fun W hb => chk3_any B g gs cap _ _ _ _ m ao lv t s c form hcl W (h2.below hb) (he2.below hb)) (fun W hb => chk4_any B g gs cap _ _ _ _ m ao lv t s c form W (h2.below hb) (he2.below hb)) (fun W hb => chk5_any B g gs cap _ _ _ _ m ao lv t s c form W (h2.below hb) (he2.below hb)) (fun W hb => chk6_any B g gs cap _ _ _ _ m ao lv t s c form W (h2.below hb) (he2.below hb)) (fun W hb => chk7_any B g gs cap _ _ _ _ m ao lv t s c form W (h2.below hb) (he2.below hb))
    (fun W hb => chk8_any B g gs cap _ _ _ _ m ao lv t s c form k2 k1 r1 W (h2.below hb) (he2.below hb) (liesC_next hl2 hb)) (fun W hb => chk9_any B g gs cap _ _ _ _ m ao lv t s c form w2 w1 W (h2.below hb) (he2.below hb) (liesC_next hl2 hb))).mono ?_
  rintro e w' ⟨rfl, hb⟩
  exact ⟨rfl, below_next hb2 (Nat.le_refl _) hb⟩
theorem checks_n (g : Nat) (t : Int) (s : Cs) (c : Cmd) (form : Int) (w : World) (n : Nat) (hn : w.heap.size = n) :
    Calls Tryz.prog 37 #[.pointer (some ⟨g, 0, none⟩), .int .i64 t, cmV s c, .int .i64 form] w fun e w' => e = .returned (.slice (some ⟨n + 4, 0, none⟩) 9 9) ∧ ∃ ty, w' = (chkW w g t s c form).alloc (.cells (chkV w.heap.size (w.heap.size + 1) (w.heap.size + 2) (w.heap.size + 3)) ty (0, 0)) := by
  subst hn
  exact checks_any g t s c form w
/-- What the nine checks tell, in whatever world their list is. -/
theorem jud_n (B g gs cap : Nat) (m : Mac) (ao : Option Addr) (lv : Value) (t : Int) (s : Cs) (c : Cmd) (form : Int) (hok : CmdOk c) (w : World) (h : HoldM B w g m gs ao cap lv) (hl : LiesC w w.heap.size s c) (n : Nat) (hn : w.heap.size = n) (X : World) (hX : ∃ ty, X = (chkW w g t s c form).alloc (.cells (chkV w.heap.size (w.heap.size + 1) (w.heap.size + 2) (w.heap.size + 3)) ty (0, 0))) :
    Calls Tryz.prog 36 #[.slice (some ⟨n + 4, 0, none⟩) 9 9] X fun e w' => e = .returned (verdV (verd m t c form)) ∧ Below w.heap.size w w' := by
  subst hn
  obtain ⟨ty, rfl⟩ := hX
  exact jud_do B g gs cap m ao lv t s c form hok w h hl ty
end Go.Proofs.YtclliljkmmpglaaGreat
