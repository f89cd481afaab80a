/-
  The document's reader tells what the program's tells (17.1). No program is named here.
-/
import Derived.Test.YtiajlhjjmlakmaaGreatDoorSqV
namespace Go.Proofs.YtiajlhjjmlakmaaGreatDoor.Num
set_option linter.unusedSimpArgs false
set_option linter.unusedVariables false
set_option linter.unusedVariables false
set_option maxRecDepth 100000

/-- Once there is a fault, it stays as it is. -/
def St {α : Type} (d : Dr α) : Prop := ∀ S, S.bad = true → (d S).2.bad = true ∧ (d S).2.p = S.p
theorem isD_bad {l : List Tok} {s : ByteArray} {S : DS} (h : S.bad = true) : isD l s S = false := by simp [isD, h]
theorem fail_bad {l : List Tok} {S : DS} (h : S.bad = true) : S.fail l = S := if_pos h
theorem St.ret {α : Type} (x : α) : St (retD x) := fun S h => ⟨h, rfl⟩
theorem St.bnd {α β : Type} {a : Dr α} {f : α → Dr β} (ha : St a) (hf : ∀ x, St (f x)) : St (bndD a f) := fun S h => by
  obtain ⟨h1, h2⟩ := ha S h
  obtain ⟨h3, h4⟩ := hf (a S).1 (a S).2 h1
  exact ⟨h3, h4.trans h2⟩
theorem St.opt {α : Type} {l : List Tok} {s : ByteArray} {y n : Dr α} (hn : St n) : St (optD l s y n) := fun S h => by
  have e : optD l s y n S = n S := by
    unfold optD
    rw [isD_bad h, if_neg (by decide)]
  rw [e]
  exact hn S h
theorem St.fail {l : List Tok} : St (failD l) := fun S h => by
  show (S.fail l).bad = true ∧ (S.fail l).p = S.p
  rw [fail_bad h]
  exact ⟨h, rfl⟩
theorem St.eat {l : List Tok} {s : ByteArray} : St (eatD l s) := fun S h => by
  unfold eatD
  rw [isD_bad h, if_neg (by decide)]
  exact St.fail S h
theorem St.name {l : List Tok} : St (nameD l) := fun S h => by
  unfold nameD
  rw [if_pos (Or.inl h)]
  exact St.fail S h
theorem St.value {l : List Tok} : St (valueD l) := fun S h => by
  unfold valueD
  rw [isD_bad h, isD_bad h, isD_bad h, if_neg (by decide), if_neg (by decide), if_neg (by decide), if_pos (Or.inl h)]
  exact St.fail S h
theorem many_bad (S : DS) (b : Bool) : (S.many b).bad = S.bad ∧ (S.many b).p = S.p ∧ (S.many b).i = S.i ∧ (S.many b).long = (S.long || b) := by
  unfold DS.many
  cases b <;> simp
theorem St.many {b : Bool} : St (fun S => ((), S.many b)) := fun S h => by
  obtain ⟨h1, h2, _⟩ := many_bad S b
  exact ⟨h1.trans h, h2⟩
theorem St.more {α : Type} {l : List Tok} {s : ByteArray} {d : Dr α} : ∀ (n : Nat) (acc : List α), St (moreD l s d n acc)
  | 0, acc => St.ret acc
  | n + 1, acc => St.opt (St.ret acc)
theorem St.close {l : List Tok} : St (closeD l) := fun S h => by
  unfold closeD
  rw [if_neg (by simp [h])]
  exact ⟨h, rfl⟩
theorem St.names {l : List Tok} : St (namesD l) := .bnd .eat fun _ => .bnd .name fun _ => .bnd (.more _ _) fun _ => .bnd .eat fun _ => .bnd .many fun _ => .ret _
theorem St.cond {l : List Tok} : St (condD l) := .bnd .name fun _ => .opt (.opt (.opt (.bnd .eat fun _ => .opt (.bnd .eat fun _ => .ret _))))
theorem St.wher {l : List Tok} : St (whereD l) := .opt (.ret _)
theorem St.set {l : List Tok} : St (setD1 l) := .bnd .name fun c => .bnd .eat fun _ => fun S h => by
  rw [if_neg (by simp [h])]
  exact (St.bnd St.value fun _ => St.ret _) S h
theorem St.sets {l : List Tok} : St (setsD l) := .bnd .set fun _ => .bnd (.more _ _) fun _ => .bnd .many fun _ => .ret _
theorem St.kind {l : List Tok} : St (kindD l) := .opt (.opt (.opt (.opt (.opt (.bnd .fail fun _ => .ret _)))))
theorem St.column {l : List Tok} : St (columnD l) := .bnd .name fun _ => .bnd .kind fun _ => .ret _
theorem St.table {l : List Tok} : St (tableD l) := .bnd .eat fun _ => .bnd .name fun _ => .bnd .eat fun _ => .bnd .column fun _ => .bnd .eat fun _ => .bnd .eat fun _ => .bnd (.more _ _) fun _ => .bnd .eat fun _ => .bnd .many fun _ => .ret _
theorem St.index {l : List Tok} {u : Bool} : St (indexD l u) := .bnd .eat fun _ => .bnd .name fun _ => .bnd .eat fun _ => .bnd .name fun _ => .bnd .names fun _ => .ret _
theorem St.create {l : List Tok} : St (createD l) := .bnd .eat fun _ => .opt (.opt .index)
theorem St.alter {l : List Tok} : St (alterD l) := .bnd .eat fun _ => .bnd .eat fun _ => .bnd .name fun _ => .opt (.opt (.bnd .eat fun _ => .bnd .eat fun _ => .bnd .name fun _ => .opt (.bnd .eat fun _ => .bnd .eat fun _ => .bnd .eat fun _ => .ret _)))
theorem St.select {l : List Tok} : St (selectD l) := .bnd .eat fun _ => .opt (.bnd .name fun _ => .bnd (.more _ _) fun _ => .bnd .many fun _ => .bnd .eat fun _ => .bnd .name fun _ => .bnd .wher fun _ => .ret _)
theorem St.rows {l : List Tok} : St (rowsD l) := .opt (.opt (.opt .select))
theorem St.stmt {l : List Tok} : St (stmtD l) := .opt (.opt (.opt .rows))
theorem St.semi {l : List Tok} : St (semiD l) := .opt (.ret _)

/-! What is told of lists that are too long. -/
def Ly {α : Type} (P : α → Bool → Prop) (d : Dr α) : Prop := ∀ S, (d S).2.bad = false → ∃ b, P (d S).1 b ∧ (d S).2.long = (S.long || b)
abbrev NoL {α : Type} : α → Bool → Prop := fun _ b => b = false
theorem Ly.ret {α : Type} {P : α → Bool → Prop} {x : α} (h : P x false) : Ly P (retD x) := fun S _ => ⟨false, h, by simp [retD]⟩
theorem Ly.bnd {α β : Type} {P : α → Bool → Prop} {Q : β → Bool → Prop} {a : Dr α} {f : α → Dr β} (ha : Ly P a) (hs : ∀ x, St (f x)) (hf : ∀ x b, P x b → Ly (fun y c => Q y (b || c)) (f x)) : Ly Q (bndD a f) := fun S h => by
  have h1 : (a S).2.bad = false := by
    cases e : (a S).2.bad with
    | false => rfl
    | true =>
      have := (hs (a S).1 (a S).2 e).1
      have h2 : ((f (a S).1) (a S).2).2.bad = false := h
      rw [this] at h2
      cases h2
  obtain ⟨b, hb, hl⟩ := ha S h1
  obtain ⟨c, hc, hm⟩ := hf (a S).1 b hb (a S).2 h
  refine ⟨b || c, hc, ?_⟩
  show ((f (a S).1) (a S).2).2.long = _
  rw [hm, hl, Bool.or_assoc]
theorem Ly.opt {α : Type} {P : α → Bool → Prop} {l : List Tok} {s : ByteArray} {y n : Dr α} (hy : Ly P y) (hn : Ly P n) : Ly P (optD l s y n) := fun S h => by
  unfold optD at h ⊢
  split at h
  · rename_i hb
    rw [if_pos hb]
    exact hy S h
  · rename_i hb
    rw [if_neg hb]
    exact hn S h
theorem fail_long (l : List Tok) (S : DS) : (S.fail l).long = S.long := by
  unfold DS.fail
  split <;> rfl
theorem Ly.of {α : Type} {d : Dr α} (h : ∀ S, (d S).2.long = S.long) : Ly NoL d := fun S _ => ⟨false, rfl, by rw [h S, Bool.or_false]⟩
theorem Ly.fail {l : List Tok} : Ly NoL (failD l) := .of fun S => fail_long l S
theorem Ly.inc : Ly NoL incD := .of fun S => rfl
theorem Ly.eat {l : List Tok} {s : ByteArray} : Ly NoL (eatD l s) := .of fun S => by
  unfold eatD
  split
  · rfl
  · exact fail_long l S
theorem Ly.name {l : List Tok} : Ly NoL (nameD l) := .of fun S => by
  unfold nameD
  split
  · exact fail_long l S
  · rfl
theorem Ly.value {l : List Tok} : Ly NoL (valueD l) := .of fun S => by
  unfold valueD
  split
  · rfl
  split
  · rfl
  split
  · rfl
  split
  · exact fail_long l S
  · rfl
theorem Ly.many {b : Bool} : Ly (fun _ c => c = b) (fun S => ((), S.many b)) := fun S _ => ⟨b, rfl, (many_bad S b).2.2.2⟩
theorem Ly.imp {α : Type} {P Q : α → Bool → Prop} {d : Dr α} (h : Ly P d) (hq : ∀ x b, P x b → Q x b) : Ly Q d := fun S hs => (h S hs).elim fun b hb => ⟨b, hq _ _ hb.1, hb.2⟩
theorem Ly.then {α β : Type} {Q : β → Bool → Prop} {a : Dr α} {f : α → Dr β} (ha : Ly NoL a) (hs : ∀ x, St (f x)) (hf : ∀ x, Ly Q (f x)) : Ly Q (bndD a f) :=
  .bnd ha hs fun x b hb => by
    obtain rfl : b = false := hb
    exact (hf x).imp fun y c h => by simpa using h
theorem Ly.more {α : Type} {l : List Tok} {s : ByteArray} {d : Dr α} (hd : Ly NoL d) (hs : St d) : ∀ (n : Nat) (acc : List α), Ly NoL (moreD l s d n acc)
  | 0, acc => .ret rfl
  | n + 1, acc => .opt (.then .eat (fun _ => .bnd hs fun _ => .more _ _) fun _ => .then hd (fun _ => .more _ _) fun a => Ly.more hd hs n (acc ++ [a])) (.ret rfl)
def Long8 {α : Type} : List α → Bool → Prop := fun x b => b = decide (8 < x.length)
theorem Ly.names {l : List Tok} : Ly Long8 (namesD l) := .then .eat (fun _ => .bnd .name fun _ => .bnd (.more _ _) fun _ => .bnd .eat fun _ => .bnd .many fun _ => .ret _) fun _ => .then .name (fun _ => .bnd (.more _ _) fun _ => .bnd .eat fun _ => .bnd .many fun _ => .ret _) fun _ => .then (.more .name .name _ _) (fun _ => .bnd .eat fun _ => .bnd .many fun _ => .ret _) fun ns => .then .eat (fun _ => .bnd .many fun _ => .ret _) fun _ =>
  .bnd .many (fun _ => .ret _) fun _ b hb => .ret (by rw [hb]; simp [Long8])
theorem Ly.cond {l : List Tok} : Ly NoL (condD l) :=
  .then .name (fun _ => .opt (.opt (.opt (.bnd .eat fun _ => .opt (.bnd .eat fun _ => .ret _))))) fun c =>
  .opt (.then .inc (fun _ => .bnd .value fun _ => .ret _) fun _ => .then .value (fun _ => .ret _) fun _ => .ret rfl)
  (.opt (.then .inc (fun _ => .bnd .value fun _ => .ret _) fun _ => .then .value (fun _ => .ret _) fun _ => .ret rfl)
  (.opt (.then .inc (fun _ => .bnd .value fun _ => .ret _) fun _ => .then .value (fun _ => .ret _) fun _ => .ret rfl)
  (.then .eat (fun _ => .opt (.bnd .eat fun _ => .ret _)) fun _ => .opt (.then .eat (fun _ => .bnd .eat fun _ => .ret _) fun _ => .then .eat (fun _ => .ret _) fun _ => .ret rfl) (.then .eat (fun _ => .ret _) fun _ => .ret rfl))))
def Long4 : List Cnd → Bool → Prop := fun x b => b = decide (4 < x.length)
theorem Ly.wher {l : List Tok} : Ly Long4 (whereD l) :=
  .opt (.then .eat (fun _ => .bnd .cond fun _ => .bnd (.more _ _) fun _ => .bnd .many fun _ => .ret _) fun _ => .then .cond (fun _ => .bnd (.more _ _) fun _ => .bnd .many fun _ => .ret _) fun _ => .then (.more .cond .cond _ _) (fun _ => .bnd .many fun _ => .ret _) fun cs =>
    .bnd .many (fun _ => .ret _) fun _ b hb => .ret (by rw [hb]; simp [Long4])) (.ret (by simp [Long4]))
theorem Ly.set {l : List Tok} : Ly NoL (setD1 l) :=
  .then .name (fun _ => .bnd .eat fun _ => fun S h => by rw [if_neg (by simp [h])]; exact (St.bnd St.value fun _ => St.ret _) S h) fun c =>
  .then .eat (fun _ => fun S h => by rw [if_neg (by simp [h])]; exact (St.bnd St.value fun _ => St.ret _) S h) fun _ => fun S h => by
    have h2 : Ly NoL (bndD (if (tokAt l S.i).t ≠ c then failD l else incD) fun _ => bndD (eatD l ⟨#[43]⟩) fun _ => bndD (valueD l) fun v => retD (⟨c, true, v⟩ : Sett)) :=
      .then (by split <;> first | exact Ly.fail | exact Ly.inc) (fun _ => .bnd .eat fun _ => .bnd .value fun _ => .ret _) fun _ => .then .eat (fun _ => .bnd .value fun _ => .ret _) fun _ => .then .value (fun _ => .ret _) fun _ => .ret rfl
    have h3 : Ly NoL (bndD (valueD l) fun v => retD (⟨c, false, v⟩ : Sett)) := .then .value (fun _ => .ret _) fun _ => .ret rfl
    split at h
    · rename_i hc
      rw [if_pos hc]
      exact h2 S h
    · rename_i hc
      rw [if_neg hc]
      exact h3 S h
theorem Ly.sets {l : List Tok} : Ly Long8 (setsD l) := .then .set (fun _ => .bnd (.more _ _) fun _ => .bnd .many fun _ => .ret _) fun _ => .then (.more .set .set _ _) (fun _ => .bnd .many fun _ => .ret _) fun ss => .bnd .many (fun _ => .ret _) fun _ b hb => .ret (by rw [hb]; simp [Long8])
theorem Ly.kind {l : List Tok} : Ly NoL (kindD l) :=
  .opt (.then .inc (fun _ => .ret _) fun _ => .ret rfl) (.opt (.then .inc (fun _ => .ret _) fun _ => .ret rfl) (.opt (.then .inc (fun _ => .ret _) fun _ => .ret rfl) (.opt (.then .inc (fun _ => .ret _) fun _ => .ret rfl) (.opt (.then .inc (fun _ => .ret _) fun _ => .ret rfl) (.then .fail (fun _ => .ret _) fun _ => .ret rfl)))))
theorem Ly.column {l : List Tok} : Ly NoL (columnD l) := .then .name (fun _ => .bnd .kind fun _ => .ret _) fun _ => .then .kind (fun _ => .ret _) fun _ => .ret rfl
abbrev LyS : Stm → Bool → Prop := fun x b => b = tooMany x
theorem max_or (a b : Nat) : decide (8 < max a b) = (decide (8 < a) || decide (8 < b)) := by
  rw [Bool.eq_iff_iff]
  simp only [Bool.or_eq_true, decide_eq_true_eq]
  omega
theorem tooMany_eq (x : Stm) : tooMany x = (decide (8 < x.cols.length) || decide (8 < x.types.length) || decide (8 < x.vals.length) || decide (8 < x.sets.length) || decide (4 < x.conds.length)) := by
  unfold tooMany
  rw [max_or, max_or, max_or]
theorem Ly.table {l : List Tok} : Ly LyS (tableD l) :=
  .then .eat (fun _ => .bnd .name fun _ => .bnd .eat fun _ => .bnd .column fun _ => .bnd .eat fun _ => .bnd .eat fun _ => .bnd (.more _ _) fun _ => .bnd .eat fun _ => .bnd .many fun _ => .ret _) fun _ =>
  .then .name (fun _ => .bnd .eat fun _ => .bnd .column fun _ => .bnd .eat fun _ => .bnd .eat fun _ => .bnd (.more _ _) fun _ => .bnd .eat fun _ => .bnd .many fun _ => .ret _) fun t =>
  .then .eat (fun _ => .bnd .column fun _ => .bnd .eat fun _ => .bnd .eat fun _ => .bnd (.more _ _) fun _ => .bnd .eat fun _ => .bnd .many fun _ => .ret _) fun _ =>
  .then .column (fun _ => .bnd .eat fun _ => .bnd .eat fun _ => .bnd (.more _ _) fun _ => .bnd .eat fun _ => .bnd .many fun _ => .ret _) fun _ =>
  .then .eat (fun _ => .bnd .eat fun _ => .bnd (.more _ _) fun _ => .bnd .eat fun _ => .bnd .many fun _ => .ret _) fun _ =>
  .then .eat (fun _ => .bnd (.more _ _) fun _ => .bnd .eat fun _ => .bnd .many fun _ => .ret _) fun _ =>
  .then (.more .column .column _ _) (fun _ => .bnd .eat fun _ => .bnd .many fun _ => .ret _) fun cs =>
  .then .eat (fun _ => .bnd .many fun _ => .ret _) fun _ => .bnd .many (fun _ => .ret _) fun _ b hb => .ret (by rw [hb, LyS, tooMany_eq]; simp [Stm.zero])
theorem Ly.index {l : List Tok} {u : Bool} : Ly LyS (indexD l u) :=
  .then .eat (fun _ => .bnd .name fun _ => .bnd .eat fun _ => .bnd .name fun _ => .bnd .names fun _ => .ret _) fun _ =>
  .then .name (fun _ => .bnd .eat fun _ => .bnd .name fun _ => .bnd .names fun _ => .ret _) fun _ =>
  .then .eat (fun _ => .bnd .name fun _ => .bnd .names fun _ => .ret _) fun _ =>
  .then .name (fun _ => .bnd .names fun _ => .ret _) fun _ => .bnd .names (fun _ => .ret _) fun cs b hb => .ret (by rw [show b = _ from hb, LyS, tooMany_eq]; simp [Stm.zero])
theorem Ly.create {l : List Tok} : Ly LyS (createD l) := .then .eat (fun _ => .opt (.opt .index)) fun _ => .opt .table (.opt (.then .eat (fun _ => .index) fun _ => .index) .index)
theorem lyz {x : Stm} (h1 : x.cols = []) (h2 : x.types = []) (h3 : x.vals.length ≤ 8) (h4 : x.sets = []) (h5 : x.conds = []) : LyS x false := by
  rw [LyS, tooMany_eq, h1, h2, h4, h5]
  simp
  omega
theorem Ly.alter {l : List Tok} : Ly LyS (alterD l) :=
  .then .eat (fun _ => .bnd .eat fun _ => .bnd .name fun _ => .opt (.opt (.bnd .eat fun _ => .bnd .eat fun _ => .bnd .name fun _ => .opt (.bnd .eat fun _ => .bnd .eat fun _ => .bnd .eat fun _ => .ret _)))) fun _ =>
  .then .eat (fun _ => .bnd .name fun _ => .opt (.opt (.bnd .eat fun _ => .bnd .eat fun _ => .bnd .name fun _ => .opt (.bnd .eat fun _ => .bnd .eat fun _ => .bnd .eat fun _ => .ret _)))) fun _ =>
  .then .name (fun _ => .opt (.opt (.bnd .eat fun _ => .bnd .eat fun _ => .bnd .name fun _ => .opt (.bnd .eat fun _ => .bnd .eat fun _ => .bnd .eat fun _ => .ret _)))) fun t =>
  .opt (.then .eat (fun _ => .bnd .eat fun _ => .bnd .name fun _ => .bnd .kind fun _ => .opt (.ret _)) fun _ => .then .eat (fun _ => .bnd .name fun _ => .bnd .kind fun _ => .opt (.ret _)) fun _ => .then .name (fun _ => .bnd .kind fun _ => .opt (.ret _)) fun n => .then .kind (fun _ => .opt (.ret _)) fun k =>
    .opt (.then .eat (fun _ => .bnd .value fun _ => .ret _) fun _ => .then .value (fun _ => .ret _) fun v => .ret (lyz rfl rfl (by simp) rfl rfl)) (.ret (lyz rfl rfl (by simp) rfl rfl)))
  (.opt (.then .eat (fun _ => .bnd .eat fun _ => .bnd .name fun _ => .ret _) fun _ => .then .eat (fun _ => .bnd .name fun _ => .ret _) fun _ => .then .name (fun _ => .ret _) fun n => .ret (lyz rfl rfl (by simp [Stm.zero]) rfl rfl))
  (.then .eat (fun _ => .bnd .eat fun _ => .bnd .name fun _ => .opt (.bnd .eat fun _ => .bnd .eat fun _ => .bnd .eat fun _ => .ret _)) fun _ => .then .eat (fun _ => .bnd .name fun _ => .opt (.bnd .eat fun _ => .bnd .eat fun _ => .bnd .eat fun _ => .ret _)) fun _ => .then .name (fun _ => .opt (.bnd .eat fun _ => .bnd .eat fun _ => .bnd .eat fun _ => .ret _)) fun n =>
    .opt (.then .eat (fun _ => .bnd .eat fun _ => .bnd .eat fun _ => .ret _) fun _ => .then .eat (fun _ => .bnd .eat fun _ => .ret _) fun _ => .then .eat (fun _ => .ret _) fun _ => .ret (lyz rfl rfl (by simp [Stm.zero]) rfl rfl))
    (.then .eat (fun _ => .bnd .eat fun _ => .bnd .eat fun _ => .ret _) fun _ => .then .eat (fun _ => .bnd .eat fun _ => .ret _) fun _ => .then .eat (fun _ => .ret _) fun _ => .ret (lyz rfl rfl (by simp [Stm.zero]) rfl rfl))))
theorem Ly.insert {l : List Tok} : Ly LyS (insertD l) :=
  .then .eat (fun _ => .bnd .eat fun _ => .bnd .name fun _ => .bnd .names fun _ => .bnd .eat fun _ => .bnd .eat fun _ => .bnd .value fun _ => .bnd (.more _ _) fun _ => .bnd .eat fun _ => .bnd .many fun _ => .ret _) fun _ =>
  .then .eat (fun _ => .bnd .name fun _ => .bnd .names fun _ => .bnd .eat fun _ => .bnd .eat fun _ => .bnd .value fun _ => .bnd (.more _ _) fun _ => .bnd .eat fun _ => .bnd .many fun _ => .ret _) fun _ =>
  .then .name (fun _ => .bnd .names fun _ => .bnd .eat fun _ => .bnd .eat fun _ => .bnd .value fun _ => .bnd (.more _ _) fun _ => .bnd .eat fun _ => .bnd .many fun _ => .ret _) fun t =>
  .bnd .names (fun _ => .bnd .eat fun _ => .bnd .eat fun _ => .bnd .value fun _ => .bnd (.more _ _) fun _ => .bnd .eat fun _ => .bnd .many fun _ => .ret _) fun cs b hb =>
  .then .eat (fun _ => .bnd .eat fun _ => .bnd .value fun _ => .bnd (.more _ _) fun _ => .bnd .eat fun _ => .bnd .many fun _ => .ret _) fun _ =>
  .then .eat (fun _ => .bnd .value fun _ => .bnd (.more _ _) fun _ => .bnd .eat fun _ => .bnd .many fun _ => .ret _) fun _ =>
  .then .value (fun _ => .bnd (.more _ _) fun _ => .bnd .eat fun _ => .bnd .many fun _ => .ret _) fun _ =>
  .then (.more .value .value _ _) (fun _ => .bnd .eat fun _ => .bnd .many fun _ => .ret _) fun vs =>
  .then .eat (fun _ => .bnd .many fun _ => .ret _) fun _ => .bnd .many (fun _ => .ret _) fun _ c hc => .ret (by rw [show b = _ from hb, show c = _ from hc, LyS, tooMany_eq]; simp [Stm.zero])
theorem Ly.update {l : List Tok} : Ly LyS (updateD l) :=
  .then .eat (fun _ => .bnd .name fun _ => .bnd .eat fun _ => .bnd .sets fun _ => .bnd .wher fun _ => .ret _) fun _ =>
  .then .name (fun _ => .bnd .eat fun _ => .bnd .sets fun _ => .bnd .wher fun _ => .ret _) fun t =>
  .then .eat (fun _ => .bnd .sets fun _ => .bnd .wher fun _ => .ret _) fun _ =>
  .bnd .sets (fun _ => .bnd .wher fun _ => .ret _) fun ss b hb => .bnd .wher (fun _ => .ret _) fun cs c hc => .ret (by rw [show b = _ from hb, show c = _ from hc, LyS, tooMany_eq]; simp [Stm.zero])
theorem Ly.delete {l : List Tok} : Ly LyS (deleteD l) :=
  .then .eat (fun _ => .bnd .eat fun _ => .bnd .name fun _ => .bnd .wher fun _ => .ret _) fun _ =>
  .then .eat (fun _ => .bnd .name fun _ => .bnd .wher fun _ => .ret _) fun _ =>
  .then .name (fun _ => .bnd .wher fun _ => .ret _) fun t => .bnd .wher (fun _ => .ret _) fun cs c hc => .ret (by rw [show c = _ from hc, LyS, tooMany_eq]; simp [Stm.zero])
theorem Ly.select {l : List Tok} : Ly LyS (selectD l) :=
  .then .eat (fun _ => .opt (.bnd .name fun _ => .bnd (.more _ _) fun _ => .bnd .many fun _ => .bnd .eat fun _ => .bnd .name fun _ => .bnd .wher fun _ => .ret _)) fun _ =>
  .opt (.then .eat (fun _ => .bnd .eat fun _ => .bnd .name fun _ => .bnd .wher fun _ => .ret _) fun _ => .then .eat (fun _ => .bnd .name fun _ => .bnd .wher fun _ => .ret _) fun _ => .then .name (fun _ => .bnd .wher fun _ => .ret _) fun t => .bnd .wher (fun _ => .ret _) fun cs c hc => .ret (by rw [show c = _ from hc, LyS, tooMany_eq]; simp [Stm.zero]))
  (.then .name (fun _ => .bnd (.more _ _) fun _ => .bnd .many fun _ => .bnd .eat fun _ => .bnd .name fun _ => .bnd .wher fun _ => .ret _) fun a => .then (.more .name .name _ _) (fun _ => .bnd .many fun _ => .bnd .eat fun _ => .bnd .name fun _ => .bnd .wher fun _ => .ret _) fun ns =>
    .bnd .many (fun _ => .bnd .eat fun _ => .bnd .name fun _ => .bnd .wher fun _ => .ret _) fun _ b hb => .then .eat (fun _ => .bnd .name fun _ => .bnd .wher fun _ => .ret _) fun _ => .then .name (fun _ => .bnd .wher fun _ => .ret _) fun t => .bnd .wher (fun _ => .ret _) fun cs c hc => .ret (by rw [show b = _ from hb, show c = _ from hc, LyS, tooMany_eq]; simp [Stm.zero]))
theorem Ly.drop {l : List Tok} : Ly LyS (dropD l) :=
  .then .eat (fun _ => .bnd .eat fun _ => .bnd .name fun _ => .bnd .eat fun _ => .bnd .name fun _ => .ret _) fun _ => .then .eat (fun _ => .bnd .name fun _ => .bnd .eat fun _ => .bnd .name fun _ => .ret _) fun _ => .then .name (fun _ => .bnd .eat fun _ => .bnd .name fun _ => .ret _) fun n => .then .eat (fun _ => .bnd .name fun _ => .ret _) fun _ => .then .name (fun _ => .ret _) fun t => .ret (lyz rfl rfl (by simp [Stm.zero]) rfl rfl)
theorem Ly.stmt {l : List Tok} : Ly LyS (stmtD l) := .opt .create (.opt .drop (.opt .alter (.opt .insert (.opt .update (.opt .delete .select)))))
theorem Ly.close {l : List Tok} : Ly NoL (closeD l) := .of fun S => by
  unfold closeD
  split
  · exact fail_long l S
  · rfl
theorem Ly.parse {l : List Tok} : Ly LyS (parseD l) := .bnd .stmt (fun _ => .bnd .semi fun _ => .bnd .close fun _ => .ret _) fun x b hb =>
  .then (.opt .eat (.ret rfl)) (fun _ => .bnd .close fun _ => .ret _) fun _ => .then .close (fun _ => .ret _) fun _ => .ret (by simpa using hb)
end Go.Proofs.YtiajlhjjmlakmaaGreatDoor.Num
