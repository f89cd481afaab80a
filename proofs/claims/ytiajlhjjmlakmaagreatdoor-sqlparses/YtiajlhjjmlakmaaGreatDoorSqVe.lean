import Derived.Test.YtiajlhjjmlakmaaGreatDoorSqV
import Derived.Test.YtiajlhjjmlakmaaGreatDoorSqE
import Derived.Defers
import Derived.Recover
namespace Go.Proofs.YtiajlhjjmlakmaaGreatDoor.Num
set_option linter.unusedSimpArgs false
set_option linter.unusedVariables false
set_option maxRecDepth 100000

def St {α : Type} (d : Dr α) : Prop := ∀ S, S.bad = true → (d S).2.bad = true ∧ (d S).2.p = S.p
theorem isD_bad {l : List Tok} {s : ByteArray} {S : DS} (h : S.bad = true) : isD l s S = false := by simp [isD, h]
theorem fail_bad {l : List Tok} {S : DS} (h : S.bad = true) : S.fail l = S := if_pos h
theorem St.ret {α : Type} (x : α) : St (retD x) := fun S h => ⟨h, rfl⟩
theorem St.bnd {α β : Type} {a : Dr α} {f : α → Dr β} (ha : St a) (hf : ∀ x, St (f x)) : St (bndD a f) := fun S h => by
 obtain ⟨h1, h2⟩ := ha S h
 obtain ⟨h3, h4⟩ := hf (a S).1 (a S).2 h1
 exact ⟨h3, h4.trans h2⟩
theorem St.opt {α : Type} {l : List Tok} {s : ByteArray} {y n : Dr α} (hn : St n) : St (optD l s y n) := fun S h => by
 have e : optD l s y n S = n S := by
  unfold optD
  rw [isD_bad h, if_neg (by decide)]
 rw [e]
 exact hn S h
theorem St.fail {l : List Tok} : St (failD l) := fun S h => by
 show (S.fail l).bad = true ∧ (S.fail l).p = S.p
 rw [fail_bad h]
 exact ⟨h, rfl⟩
theorem St.eat {l : List Tok} {s : ByteArray} : St (eatD l s) := fun S h => by
 unfold eatD
 rw [isD_bad h, if_neg (by decide)]
 exact St.fail S h
theorem St.name {l : List Tok} : St (nameD l) := fun S h => by
 unfold nameD
 rw [if_pos (Or.inl h)]
 exact St.fail S h
theorem St.value {l : List Tok} : St (valueD l) := fun S h => by
 unfold valueD
 rw [isD_bad h, isD_bad h, isD_bad h, if_neg (by decide), if_neg (by decide), if_neg (by decide), if_pos (Or.inl h)]
 exact St.fail S h
theorem many_bad (S : DS) (b : Bool) : (S.many b).bad = S.bad ∧ (S.many b).p = S.p ∧ (S.many b).i = S.i ∧ (S.many b).long = (S.long || b) := by
 unfold DS.many
 cases b <;> simp
theorem St.many {b : Bool} : St (fun S => ((), S.many b)) := fun S h => by
 obtain ⟨h1, h2, _⟩ := many_bad S b
 exact ⟨h1.trans h, h2⟩
theorem St.more {α : Type} {l : List Tok} {s : ByteArray} {d : Dr α} : ∀ (n : Nat) (acc : List α), St (moreD l s d n acc)
 | 0, acc => St.ret acc
 | n + 1, acc => St.opt (St.ret acc)
theorem St.close {l : List Tok} : St (closeD l) := fun S h => by
 unfold closeD
 rw [if_neg (by simp [h])]
 exact ⟨h, rfl⟩
theorem St.names {l : List Tok} : St (namesD l) := .bnd .eat fun _ => .bnd .name fun _ => .bnd (.more _ _) fun _ => .bnd .eat fun _ => .bnd .many fun _ => .ret _
theorem St.cond {l : List Tok} : St (condD l) := .bnd .name fun _ => .opt (.opt (.opt (.bnd .eat fun _ => .opt (.bnd .eat fun _ => .ret _))))
theorem St.wher {l : List Tok} : St (whereD l) := .opt (.ret _)
theorem St.set {l : List Tok} : St (setD1 l) := .bnd .name fun c => .bnd .eat fun _ => fun S h => by
 rw [if_neg (by simp [h])]
 exact (St.bnd St.value fun _ => St.ret _) S h
theorem St.sets {l : List Tok} : St (setsD l) := .bnd .set fun _ => .bnd (.more _ _) fun _ => .bnd .many fun _ => .ret _
theorem St.kind {l : List Tok} : St (kindD l) := .opt (.opt (.opt (.opt (.opt (.bnd .fail fun _ => .ret _)))))
theorem St.column {l : List Tok} : St (columnD l) := .bnd .name fun _ => .bnd .kind fun _ => .ret _
theorem St.table {l : List Tok} : St (tableD l) := .bnd .eat fun _ => .bnd .name fun _ => .bnd .eat fun _ => .bnd .column fun _ => .bnd .eat fun _ => .bnd .eat fun _ => .bnd (.more _ _) fun _ => .bnd .eat fun _ => .bnd .many fun _ => .ret _
theorem St.index {l : List Tok} {u : Bool} : St (indexD l u) := .bnd .eat fun _ => .bnd .name fun _ => .bnd .eat fun _ => .bnd .name fun _ => .bnd .names fun _ => .ret _
theorem St.create {l : List Tok} : St (createD l) := .bnd .eat fun _ => .opt (.opt .index)
theorem St.alter {l : List Tok} : St (alterD l) := .bnd .eat fun _ => .bnd .eat fun _ => .bnd .name fun _ => .opt (.opt (.bnd .eat fun _ => .bnd .eat fun _ => .bnd .name fun _ => .opt (.bnd .eat fun _ => .bnd .eat fun _ => .bnd .eat fun _ => .ret _)))
theorem St.select {l : List Tok} : St (selectD l) := .bnd .eat fun _ => .opt (.bnd .name fun _ => .bnd (.more _ _) fun _ => .bnd .many fun _ => .bnd .eat fun _ => .bnd .name fun _ => .bnd .wher fun _ => .ret _)
theorem St.rows {l : List Tok} : St (rowsD l) := .opt (.opt (.opt .select))
theorem St.stmt {l : List Tok} : St (stmtD l) := .opt (.opt (.opt .rows))
theorem St.semi {l : List Tok} : St (semiD l) := .opt (.ret _)

def Ly {α : Type} (P : α → Bool → Prop) (d : Dr α) : Prop := ∀ S, (d S).2.bad = false → ∃ b, P (d S).1 b ∧ (d S).2.long = (S.long || b)
abbrev NoL {α : Type} : α → Bool → Prop := fun _ b => b = false
theorem Ly.ret {α : Type} {P : α → Bool → Prop} {x : α} (h : P x false) : Ly P (retD x) := fun S _ => ⟨false, h, by simp [retD]⟩
theorem Ly.bnd {α β : Type} {P : α → Bool → Prop} {Q : β → Bool → Prop} {a : Dr α} {f : α → Dr β} (ha : Ly P a) (hs : ∀ x, St (f x)) (hf : ∀ x b, P x b → Ly (fun y c => Q y (b || c)) (f x)) : Ly Q (bndD a f) := fun S h => by
 have h1 : (a S).2.bad = false := by
  cases e : (a S).2.bad with
  | false => rfl
  | true =>
   have := (hs (a S).1 (a S).2 e).1
   have h2 : ((f (a S).1) (a S).2).2.bad = false := h
   rw [this] at h2
   cases h2
 obtain ⟨b, hb, hl⟩ := ha S h1
 obtain ⟨c, hc, hm⟩ := hf (a S).1 b hb (a S).2 h
 refine ⟨b || c, hc, ?_⟩
 show ((f (a S).1) (a S).2).2.long = _
 rw [hm, hl, Bool.or_assoc]
theorem Ly.opt {α : Type} {P : α → Bool → Prop} {l : List Tok} {s : ByteArray} {y n : Dr α} (hy : Ly P y) (hn : Ly P n) : Ly P (optD l s y n) := fun S h => by
 unfold optD at h ⊢
 split at h
 ·rename_i hb
  rw [if_pos hb]
  exact hy S h
 ·rename_i hb
  rw [if_neg hb]
  exact hn S h
theorem fail_long (l : List Tok) (S : DS) : (S.fail l).long = S.long := by
 unfold DS.fail
 split <;> rfl
theorem Ly.of {α : Type} {d : Dr α} (h : ∀ S, (d S).2.long = S.long) : Ly NoL d := fun S _ => ⟨false, rfl, by rw [h S, Bool.or_false]⟩
theorem Ly.fail {l : List Tok} : Ly NoL (failD l) := .of fun S => fail_long l S
theorem Ly.inc : Ly NoL incD := .of fun S => rfl
theorem Ly.eat {l : List Tok} {s : ByteArray} : Ly NoL (eatD l s) := .of fun S => by
 unfold eatD
 split
 ·rfl
 ·exact fail_long l S
theorem Ly.name {l : List Tok} : Ly NoL (nameD l) := .of fun S => by
 unfold nameD
 split
 ·exact fail_long l S
 ·rfl
theorem Ly.value {l : List Tok} : Ly NoL (valueD l) := .of fun S => by
 unfold valueD
 split
 ·rfl
 split
 ·rfl
 split
 ·rfl
 split
 ·exact fail_long l S
 ·rfl
theorem Ly.many {b : Bool} : Ly (fun _ c => c = b) (fun S => ((), S.many b)) := fun S _ => ⟨b, rfl, (many_bad S b).2.2.2⟩
theorem Ly.imp {α : Type} {P Q : α → Bool → Prop} {d : Dr α} (h : Ly P d) (hq : ∀ x b, P x b → Q x b) : Ly Q d := fun S hs => (h S hs).elim fun b hb => ⟨b, hq _ _ hb.1, hb.2⟩
theorem Ly.then {α β : Type} {Q : β → Bool → Prop} {a : Dr α} {f : α → Dr β} (ha : Ly NoL a) (hs : ∀ x, St (f x)) (hf : ∀ x, Ly Q (f x)) : Ly Q (bndD a f) :=
 .bnd ha hs fun x b hb => by
  obtain rfl : b = false := hb
  exact (hf x).imp fun y c h => by simpa using h
theorem Ly.more {α : Type} {l : List Tok} {s : ByteArray} {d : Dr α} (hd : Ly NoL d) (hs : St d) : ∀ (n : Nat) (acc : List α), Ly NoL (moreD l s d n acc)
 | 0, acc => .ret rfl
 | n + 1, acc => .opt (.then .eat (fun _ => .bnd hs fun _ => .more _ _) fun _ => .then hd (fun _ => .more _ _) fun a => Ly.more hd hs n (acc ++ [a])) (.ret rfl)
def Long8 {α : Type} : List α → Bool → Prop := fun x b => b = decide (8 < x.length)
theorem Ly.names {l : List Tok} : Ly Long8 (namesD l) := .then .eat (fun _ => .bnd .name fun _ => .bnd (.more _ _) fun _ => .bnd .eat fun _ => .bnd .many fun _ => .ret _) fun _ => .then .name (fun _ => .bnd (.more _ _) fun _ => .bnd .eat fun _ => .bnd .many fun _ => .ret _) fun _ => .then (.more .name .name _ _) (fun _ => .bnd .eat fun _ => .bnd .many fun _ => .ret _) fun ns => .then .eat (fun _ => .bnd .many fun _ => .ret _) fun _ =>
 .bnd .many (fun _ => .ret _) fun _ b hb => .ret (by rw [hb]; simp [Long8])
theorem Ly.cond {l : List Tok} : Ly NoL (condD l) :=
 .then .name (fun _ => .opt (.opt (.opt (.bnd .eat fun _ => .opt (.bnd .eat fun _ => .ret _))))) fun c =>
 .opt (.then .inc (fun _ => .bnd .value fun _ => .ret _) fun _ => .then .value (fun _ => .ret _) fun _ => .ret rfl)
 (.opt (.then .inc (fun _ => .bnd .value fun _ => .ret _) fun _ => .then .value (fun _ => .ret _) fun _ => .ret rfl)
 (.opt (.then .inc (fun _ => .bnd .value fun _ => .ret _) fun _ => .then .value (fun _ => .ret _) fun _ => .ret rfl)
 (.then .eat (fun _ => .opt (.bnd .eat fun _ => .ret _)) fun _ => .opt (.then .eat (fun _ => .bnd .eat fun _ => .ret _) fun _ => .then .eat (fun _ => .ret _) fun _ => .ret rfl) (.then .eat (fun _ => .ret _) fun _ => .ret rfl))))
def Long4 : List Cnd → Bool → Prop := fun x b => b = decide (4 < x.length)
theorem Ly.wher {l : List Tok} : Ly Long4 (whereD l) :=
 .opt (.then .eat (fun _ => .bnd .cond fun _ => .bnd (.more _ _) fun _ => .bnd .many fun _ => .ret _) fun _ => .then .cond (fun _ => .bnd (.more _ _) fun _ => .bnd .many fun _ => .ret _) fun _ => .then (.more .cond .cond _ _) (fun _ => .bnd .many fun _ => .ret _) fun cs =>
  .bnd .many (fun _ => .ret _) fun _ b hb => .ret (by rw [hb]; simp [Long4])) (.ret (by simp [Long4]))
theorem Ly.set {l : List Tok} : Ly NoL (setD1 l) :=
 .then .name (fun _ => .bnd .eat fun _ => fun S h => by rw [if_neg (by simp [h])]; exact (St.bnd St.value fun _ => St.ret _) S h) fun c =>
 .then .eat (fun _ => fun S h => by rw [if_neg (by simp [h])]; exact (St.bnd St.value fun _ => St.ret _) S h) fun _ => fun S h => by
  have h2 : Ly NoL (bndD (if (tokAt l S.i).t ≠ c then failD l else incD) fun _ => bndD (eatD l ⟨#[43]⟩) fun _ => bndD (valueD l) fun v => retD (⟨c, true, v⟩ : Sett)) :=
   .then (by split <;> first | exact Ly.fail | exact Ly.inc) (fun _ => .bnd .eat fun _ => .bnd .value fun _ => .ret _) fun _ => .then .eat (fun _ => .bnd .value fun _ => .ret _) fun _ => .then .value (fun _ => .ret _) fun _ => .ret rfl
  have h3 : Ly NoL (bndD (valueD l) fun v => retD (⟨c, false, v⟩ : Sett)) := .then .value (fun _ => .ret _) fun _ => .ret rfl
  split at h
  ·rename_i hc
   rw [if_pos hc]
   exact h2 S h
  ·rename_i hc
   rw [if_neg hc]
   exact h3 S h
theorem Ly.sets {l : List Tok} : Ly Long8 (setsD l) := .then .set (fun _ => .bnd (.more _ _) fun _ => .bnd .many fun _ => .ret _) fun _ => .then (.more .set .set _ _) (fun _ => .bnd .many fun _ => .ret _) fun ss => .bnd .many (fun _ => .ret _) fun _ b hb => .ret (by rw [hb]; simp [Long8])
theorem Ly.kind {l : List Tok} : Ly NoL (kindD l) :=
 .opt (.then .inc (fun _ => .ret _) fun _ => .ret rfl) (.opt (.then .inc (fun _ => .ret _) fun _ => .ret rfl) (.opt (.then .inc (fun _ => .ret _) fun _ => .ret rfl) (.opt (.then .inc (fun _ => .ret _) fun _ => .ret rfl) (.opt (.then .inc (fun _ => .ret _) fun _ => .ret rfl) (.then .fail (fun _ => .ret _) fun _ => .ret rfl)))))
theorem Ly.column {l : List Tok} : Ly NoL (columnD l) := .then .name (fun _ => .bnd .kind fun _ => .ret _) fun _ => .then .kind (fun _ => .ret _) fun _ => .ret rfl
abbrev LyS : Stm → Bool → Prop := fun x b => b = tooMany x
theorem max_or (a b : Nat) : decide (8 < max a b) = (decide (8 < a) || decide (8 < b)) := by
 rw [Bool.eq_iff_iff]
 simp only [Bool.or_eq_true, decide_eq_true_eq]
 omega
theorem tooMany_eq (x : Stm) : tooMany x = (decide (8 < x.cols.length) || decide (8 < x.types.length) || decide (8 < x.vals.length) || decide (8 < x.sets.length) || decide (4 < x.conds.length)) := by
 unfold tooMany
 rw [max_or, max_or, max_or]
theorem Ly.table {l : List Tok} : Ly LyS (tableD l) :=
 .then .eat (fun _ => .bnd .name fun _ => .bnd .eat fun _ => .bnd .column fun _ => .bnd .eat fun _ => .bnd .eat fun _ => .bnd (.more _ _) fun _ => .bnd .eat fun _ => .bnd .many fun _ => .ret _) fun _ =>
 .then .name (fun _ => .bnd .eat fun _ => .bnd .column fun _ => .bnd .eat fun _ => .bnd .eat fun _ => .bnd (.more _ _) fun _ => .bnd .eat fun _ => .bnd .many fun _ => .ret _) fun t =>
 .then .eat (fun _ => .bnd .column fun _ => .bnd .eat fun _ => .bnd .eat fun _ => .bnd (.more _ _) fun _ => .bnd .eat fun _ => .bnd .many fun _ => .ret _) fun _ =>
 .then .column (fun _ => .bnd .eat fun _ => .bnd .eat fun _ => .bnd (.more _ _) fun _ => .bnd .eat fun _ => .bnd .many fun _ => .ret _) fun _ =>
 .then .eat (fun _ => .bnd .eat fun _ => .bnd (.more _ _) fun _ => .bnd .eat fun _ => .bnd .many fun _ => .ret _) fun _ =>
 .then .eat (fun _ => .bnd (.more _ _) fun _ => .bnd .eat fun _ => .bnd .many fun _ => .ret _) fun _ =>
 .then (.more .column .column _ _) (fun _ => .bnd .eat fun _ => .bnd .many fun _ => .ret _) fun cs =>
 .then .eat (fun _ => .bnd .many fun _ => .ret _) fun _ => .bnd .many (fun _ => .ret _) fun _ b hb => .ret (by rw [hb, LyS, tooMany_eq]; simp [Stm.zero])
theorem Ly.index {l : List Tok} {u : Bool} : Ly LyS (indexD l u) :=
 .then .eat (fun _ => .bnd .name fun _ => .bnd .eat fun _ => .bnd .name fun _ => .bnd .names fun _ => .ret _) fun _ =>
 .then .name (fun _ => .bnd .eat fun _ => .bnd .name fun _ => .bnd .names fun _ => .ret _) fun _ =>
 .then .eat (fun _ => .bnd .name fun _ => .bnd .names fun _ => .ret _) fun _ =>
 .then .name (fun _ => .bnd .names fun _ => .ret _) fun _ => .bnd .names (fun _ => .ret _) fun cs b hb => .ret (by rw [show b = _ from hb, LyS, tooMany_eq]; simp [Stm.zero])
theorem Ly.create {l : List Tok} : Ly LyS (createD l) := .then .eat (fun _ => .opt (.opt .index)) fun _ => .opt .table (.opt (.then .eat (fun _ => .index) fun _ => .index) .index)
theorem lyz {x : Stm} (h1 : x.cols = []) (h2 : x.types = []) (h3 : x.vals.length ≤ 8) (h4 : x.sets = []) (h5 : x.conds = []) : LyS x false := by
 rw [LyS, tooMany_eq, h1, h2, h4, h5]
 simp
 omega
theorem Ly.alter {l : List Tok} : Ly LyS (alterD l) :=
 .then .eat (fun _ => .bnd .eat fun _ => .bnd .name fun _ => .opt (.opt (.bnd .eat fun _ => .bnd .eat fun _ => .bnd .name fun _ => .opt (.bnd .eat fun _ => .bnd .eat fun _ => .bnd .eat fun _ => .ret _)))) fun _ =>
 .then .eat (fun _ => .bnd .name fun _ => .opt (.opt (.bnd .eat fun _ => .bnd .eat fun _ => .bnd .name fun _ => .opt (.bnd .eat fun _ => .bnd .eat fun _ => .bnd .eat fun _ => .ret _)))) fun _ =>
 .then .name (fun _ => .opt (.opt (.bnd .eat fun _ => .bnd .eat fun _ => .bnd .name fun _ => .opt (.bnd .eat fun _ => .bnd .eat fun _ => .bnd .eat fun _ => .ret _)))) fun t =>
 .opt (.then .eat (fun _ => .bnd .eat fun _ => .bnd .name fun _ => .bnd .kind fun _ => .opt (.ret _)) fun _ => .then .eat (fun _ => .bnd .name fun _ => .bnd .kind fun _ => .opt (.ret _)) fun _ => .then .name (fun _ => .bnd .kind fun _ => .opt (.ret _)) fun n => .then .kind (fun _ => .opt (.ret _)) fun k =>
  .opt (.then .eat (fun _ => .bnd .value fun _ => .ret _) fun _ => .then .value (fun _ => .ret _) fun v => .ret (lyz rfl rfl (by simp) rfl rfl)) (.ret (lyz rfl rfl (by simp) rfl rfl)))
 (.opt (.then .eat (fun _ => .bnd .eat fun _ => .bnd .name fun _ => .ret _) fun _ => .then .eat (fun _ => .bnd .name fun _ => .ret _) fun _ => .then .name (fun _ => .ret _) fun n => .ret (lyz rfl rfl (by simp [Stm.zero]) rfl rfl))
 (.then .eat (fun _ => .bnd .eat fun _ => .bnd .name fun _ => .opt (.bnd .eat fun _ => .bnd .eat fun _ => .bnd .eat fun _ => .ret _)) fun _ => .then .eat (fun _ => .bnd .name fun _ => .opt (.bnd .eat fun _ => .bnd .eat fun _ => .bnd .eat fun _ => .ret _)) fun _ => .then .name (fun _ => .opt (.bnd .eat fun _ => .bnd .eat fun _ => .bnd .eat fun _ => .ret _)) fun n =>
  .opt (.then .eat (fun _ => .bnd .eat fun _ => .bnd .eat fun _ => .ret _) fun _ => .then .eat (fun _ => .bnd .eat fun _ => .ret _) fun _ => .then .eat (fun _ => .ret _) fun _ => .ret (lyz rfl rfl (by simp [Stm.zero]) rfl rfl))
  (.then .eat (fun _ => .bnd .eat fun _ => .bnd .eat fun _ => .ret _) fun _ => .then .eat (fun _ => .bnd .eat fun _ => .ret _) fun _ => .then .eat (fun _ => .ret _) fun _ => .ret (lyz rfl rfl (by simp [Stm.zero]) rfl rfl))))
theorem Ly.insert {l : List Tok} : Ly LyS (insertD l) :=
 .then .eat (fun _ => .bnd .eat fun _ => .bnd .name fun _ => .bnd .names fun _ => .bnd .eat fun _ => .bnd .eat fun _ => .bnd .value fun _ => .bnd (.more _ _) fun _ => .bnd .eat fun _ => .bnd .many fun _ => .ret _) fun _ =>
 .then .eat (fun _ => .bnd .name fun _ => .bnd .names fun _ => .bnd .eat fun _ => .bnd .eat fun _ => .bnd .value fun _ => .bnd (.more _ _) fun _ => .bnd .eat fun _ => .bnd .many fun _ => .ret _) fun _ =>
 .then .name (fun _ => .bnd .names fun _ => .bnd .eat fun _ => .bnd .eat fun _ => .bnd .value fun _ => .bnd (.more _ _) fun _ => .bnd .eat fun _ => .bnd .many fun _ => .ret _) fun t =>
 .bnd .names (fun _ => .bnd .eat fun _ => .bnd .eat fun _ => .bnd .value fun _ => .bnd (.more _ _) fun _ => .bnd .eat fun _ => .bnd .many fun _ => .ret _) fun cs b hb =>
 .then .eat (fun _ => .bnd .eat fun _ => .bnd .value fun _ => .bnd (.more _ _) fun _ => .bnd .eat fun _ => .bnd .many fun _ => .ret _) fun _ =>
 .then .eat (fun _ => .bnd .value fun _ => .bnd (.more _ _) fun _ => .bnd .eat fun _ => .bnd .many fun _ => .ret _) fun _ =>
 .then .value (fun _ => .bnd (.more _ _) fun _ => .bnd .eat fun _ => .bnd .many fun _ => .ret _) fun _ =>
 .then (.more .value .value _ _) (fun _ => .bnd .eat fun _ => .bnd .many fun _ => .ret _) fun vs =>
 .then .eat (fun _ => .bnd .many fun _ => .ret _) fun _ => .bnd .many (fun _ => .ret _) fun _ c hc => .ret (by rw [show b = _ from hb, show c = _ from hc, LyS, tooMany_eq]; simp [Stm.zero])
theorem Ly.update {l : List Tok} : Ly LyS (updateD l) :=
 .then .eat (fun _ => .bnd .name fun _ => .bnd .eat fun _ => .bnd .sets fun _ => .bnd .wher fun _ => .ret _) fun _ =>
 .then .name (fun _ => .bnd .eat fun _ => .bnd .sets fun _ => .bnd .wher fun _ => .ret _) fun t =>
 .then .eat (fun _ => .bnd .sets fun _ => .bnd .wher fun _ => .ret _) fun _ =>
 .bnd .sets (fun _ => .bnd .wher fun _ => .ret _) fun ss b hb => .bnd .wher (fun _ => .ret _) fun cs c hc => .ret (by rw [show b = _ from hb, show c = _ from hc, LyS, tooMany_eq]; simp [Stm.zero])
theorem Ly.delete {l : List Tok} : Ly LyS (deleteD l) :=
 .then .eat (fun _ => .bnd .eat fun _ => .bnd .name fun _ => .bnd .wher fun _ => .ret _) fun _ =>
 .then .eat (fun _ => .bnd .name fun _ => .bnd .wher fun _ => .ret _) fun _ =>
 .then .name (fun _ => .bnd .wher fun _ => .ret _) fun t => .bnd .wher (fun _ => .ret _) fun cs c hc => .ret (by rw [show c = _ from hc, LyS, tooMany_eq]; simp [Stm.zero])
theorem Ly.select {l : List Tok} : Ly LyS (selectD l) :=
 .then .eat (fun _ => .opt (.bnd .name fun _ => .bnd (.more _ _) fun _ => .bnd .many fun _ => .bnd .eat fun _ => .bnd .name fun _ => .bnd .wher fun _ => .ret _)) fun _ =>
 .opt (.then .eat (fun _ => .bnd .eat fun _ => .bnd .name fun _ => .bnd .wher fun _ => .ret _) fun _ => .then .eat (fun _ => .bnd .name fun _ => .bnd .wher fun _ => .ret _) fun _ => .then .name (fun _ => .bnd .wher fun _ => .ret _) fun t => .bnd .wher (fun _ => .ret _) fun cs c hc => .ret (by rw [show c = _ from hc, LyS, tooMany_eq]; simp [Stm.zero]))
 (.then .name (fun _ => .bnd (.more _ _) fun _ => .bnd .many fun _ => .bnd .eat fun _ => .bnd .name fun _ => .bnd .wher fun _ => .ret _) fun a => .then (.more .name .name _ _) (fun _ => .bnd .many fun _ => .bnd .eat fun _ => .bnd .name fun _ => .bnd .wher fun _ => .ret _) fun ns =>
  .bnd .many (fun _ => .bnd .eat fun _ => .bnd .name fun _ => .bnd .wher fun _ => .ret _) fun _ b hb => .then .eat (fun _ => .bnd .name fun _ => .bnd .wher fun _ => .ret _) fun _ => .then .name (fun _ => .bnd .wher fun _ => .ret _) fun t => .bnd .wher (fun _ => .ret _) fun cs c hc => .ret (by rw [show b = _ from hb, show c = _ from hc, LyS, tooMany_eq]; simp [Stm.zero]))
theorem Ly.drop {l : List Tok} : Ly LyS (dropD l) :=
 .then .eat (fun _ => .bnd .eat fun _ => .bnd .name fun _ => .bnd .eat fun _ => .bnd .name fun _ => .ret _) fun _ => .then .eat (fun _ => .bnd .name fun _ => .bnd .eat fun _ => .bnd .name fun _ => .ret _) fun _ => .then .name (fun _ => .bnd .eat fun _ => .bnd .name fun _ => .ret _) fun n => .then .eat (fun _ => .bnd .name fun _ => .ret _) fun _ => .then .name (fun _ => .ret _) fun t => .ret (lyz rfl rfl (by simp [Stm.zero]) rfl rfl)
theorem Ly.stmt {l : List Tok} : Ly LyS (stmtD l) := .opt .create (.opt .drop (.opt .alter (.opt .insert (.opt .update (.opt .delete .select)))))
theorem Ly.close {l : List Tok} : Ly NoL (closeD l) := .of fun S => by
 unfold closeD
 split
 ·exact fail_long l S
 ·rfl
theorem Ly.parse {l : List Tok} : Ly LyS (parseD l) := .bnd .stmt (fun _ => .bnd .semi fun _ => .bnd .close fun _ => .ret _) fun x b hb =>
 .then (.opt .eat (.ret rfl)) (fun _ => .bnd .close fun _ => .ret _) fun _ => .then .close (fun _ => .ret _) fun _ => .ret (by simpa using hb)
end Go.Proofs.YtiajlhjjmlakmaaGreatDoor.Num
namespace Go.Proofs.YtiajlhjjmlakmaaGreatDoor
open Go.RowKit Num
set_option linter.unusedSimpArgs false
set_option linter.unusedVariables false
set_option maxRecDepth 100000

theorem endK_cons {y : Tok} {r : List Tok} (hr : EndK r) (hne : r ≠ []) (hy : y.k = 2 → y.t ≠ ⟨#[]⟩) : EndK (y :: r) := by
 intro i x hx
 cases i with
 | zero =>
  obtain rfl := Option.some.inj hx
  refine ⟨.inl ?_, hy⟩
  have := List.length_pos_iff.2 hne
  simp only [List.length_cons]
  omega
 | succ i =>
  obtain ⟨h1, h2⟩ := hr i x (by simpa using hx)
  refine ⟨?_, h2⟩
  rcases h1 with h | h
  ·left
   simp only [List.length_cons]
   omega
  ·exact .inr h
theorem lexG_endK : ∀ (N p : Nat) (l : List UInt8) (t : List Tok), (lexG N p l).1 = some t → EndK t ∧ t ≠ [] ∧ t.length ≤ l.length + 1
 | 0, p, l, t, h => by
  obtain rfl := Option.some.inj h
  refine ⟨fun i x hx => ?_, by simp, by simp⟩
  cases i with
  | zero => obtain rfl := Option.some.inj hx; exact ⟨.inr ⟨rfl, rfl⟩, fun e => absurd (show (0 : Int) = 2 from e) (by decide)⟩
  | succ i => simp at hx
 | N + 1, p, [], t, h => by
  obtain rfl := Option.some.inj h
  refine ⟨fun i x hx => ?_, by simp, by simp⟩
  cases i with
  | zero => obtain rfl := Option.some.inj hx; exact ⟨.inr ⟨rfl, rfl⟩, fun e => absurd (show (0 : Int) = 2 from e) (by decide)⟩
  | succ i => simp at hx
 | N + 1, p, c :: r, t, h => by
  unfold lexG at h
  split at h
  ·obtain ⟨h1, h2, h3⟩ := lexG_endK N _ _ _ h
   exact ⟨h1, h2, by simp only [List.length_cons]; omega⟩
  ·cases hx : tokL (c :: r) with
   | none => rw [hx] at h; simp at h
   | some x =>
    rw [hx] at h
    have hn := tokL_len _ _ hx
    simp only at h
    unfold pre at h
    cases hq : (lexG N (p + x.2.1) ((c :: r).drop x.2.1)).1 with
    | none => rw [hq] at h; simp at h
    | some q =>
     rw [hq] at h
     obtain rfl := Option.some.inj h
     obtain ⟨h1, h2, h3⟩ := lexG_endK N _ _ _ hq
     rw [List.length_drop] at h3
     refine ⟨endK_cons h1 h2 fun _ e => ?_, by simp, by simp only [List.cons_append, List.nil_append, List.length_cons] at *; omega⟩
     have e2 := congrArg ByteArray.size e
     have e3 : (str ((c :: r).take x.2.1)).size = ((c :: r).take x.2.1).length := rfl
     rw [e3, List.length_take] at e2
     have e4 : (⟨#[]⟩ : ByteArray).size = 0 := rfl
     omega
theorem end_at {l : List Tok} {i j : Nat} {x : Tok} (hx : l[j]? = some x) (h : (if isT ⟨#[59]⟩ (rem l i) = true then (rem l i).tail else rem l i) = rem l j) : endR (rem l i) = if x.k = 0 then (some (), rem l j) else (none, rem l j) := by
 unfold endR
 rw [h, rem_at hx]
 rfl
set_option maxHeartbeats 1000000 in
theorem sqreadEnd_any {g : Nat} {v : Value} {l : List Tok} (hE : EndK l) {i : Nat} (w : World) (hP : PAt g v l i w) :
  Calls Tryz.prog 13 #[.pointer (some ⟨g, 0, none⟩)] w (Tells g v l i w VU (endR (rem l i))) := by
 have hgu := giveUp_any
 have hf := tok_f0
 rcases Bool.eq_false_or_eq_true (isT ⟨#[59]⟩ (rem l i)) with hb | hb
 ·have hi1 := isT_lt hE (by decide) hP.lt hb
  have hx := List.getElem?_eq_getElem hi1
  have HO : Hid (endR (rem l i) = if (l[i + 1]).k = 0 then (some (), rem l (i + 1)) else (none, rem l (i + 1))) := end_at hx (by
   rw [if_pos hb, rem_at (List.getElem?_eq_getElem hP.lt)]
   rfl)
  have hn := fun W h => next_any (g := g) (v := v) hx W h
  have hy := took_yes hE (by decide) hb w hP rfl
  generalize l[i + 1] = x at *
  obtain ⟨kk, tt, vv, pp⟩ := x
  simp only at hn HO
  clear hb hx
  by_cases hk : kk = 0
  ·subst hk
   go_enter Tryz.func13, Tryz.ntmps13
   go_wp2_with (first
    | (go_at_call 11; have hz := hk1; clear hz; refine (hn _ hP1).mono ?_; rintro e w2 ⟨rfl, hb2⟩)
    | (go_at_call 27; refine hy.mono ?_; rintro e w1 ⟨rfl, hk1, hP1, hr1⟩))
   go_end0
   rw [HO.out]
   exact ⟨kp_below hk1 hb2, i + 1, Nat.le_succ i, hP1.below hb2, rfl, _, rfl, rfl⟩
  ·have HN : Hid (endR (rem l i) = (none, rem l (i + 1))) := by
    unfold Hid
    rw [HO.out, if_neg hk]
   have hkb : (kk != 0) = true := by simpa using hk
   clear HO hk
   go_enter Tryz.func13, Tryz.ntmps13
   go_wp2_with (first
    | (go_at_call 36; refine (hgu _).mono ?_; rintro e w3 ⟨rfl, rfl⟩)
    | (go_at_call 11; have hz := hk1; clear hz; refine (hn _ hP1).mono ?_; rintro e w2 ⟨rfl, hb2⟩)
    | (go_at_call 27; refine hy.mono ?_; rintro e w1 ⟨rfl, hk1, hP1, hr1⟩))
   refine ⟨rfl, ?_⟩
   rw [HN.out]
   exact ⟨kp_below hk1 hb2, i + 1, Nat.le_succ i, hP1.below hb2, rfl, rfl⟩
 ·have hx := List.getElem?_eq_getElem hP.lt
  have HO : Hid (endR (rem l i) = if (l[i]'hP.lt).k = 0 then (some (), rem l i) else (none, rem l i)) := end_at hx (if_neg (by simp [hb]))
  have hn := fun W h => next_any (g := g) (v := v) hx W h
  have hy := took_no hb w hP rfl
  have hlt := hP.lt
  generalize l[i] = x at *
  obtain ⟨kk, tt, vv, pp⟩ := x
  simp only at hn HO
  clear hb hx
  by_cases hk : kk = 0
  ·subst hk
   go_enter Tryz.func13, Tryz.ntmps13
   go_wp2_with (first
    | (go_at_call 11; have hz := hk1; clear hz; refine (hn _ hP1).mono ?_; rintro e w2 ⟨rfl, hb2⟩)
    | (go_at_call 27; refine hy.mono ?_; rintro e w1 ⟨rfl, hk1, hP1⟩))
   go_end0
   rw [HO.out]
   exact ⟨kp_below hk1 hb2, i, Nat.le_refl i, hP1.below hb2, rfl, _, rfl, rfl⟩
  ·have HN : Hid (endR (rem l i) = (none, rem l i)) := by
    unfold Hid
    rw [HO.out, if_neg hk]
   have hkb : (kk != 0) = true := by simpa using hk
   clear HO hk
   go_enter Tryz.func13, Tryz.ntmps13
   go_wp2_with (first
    | (go_at_call 36; refine (hgu _).mono ?_; rintro e w3 ⟨rfl, rfl⟩)
    | (go_at_call 11; have hz := hk1; clear hz; refine (hn _ hP1).mono ?_; rintro e w2 ⟨rfl, hb2⟩)
    | (go_at_call 27; refine hy.mono ?_; rintro e w1 ⟨rfl, hk1, hP1⟩))
   refine ⟨rfl, ?_⟩
   rw [HN.out]
   exact ⟨kp_below hk1 hb2, i, Nat.le_refl i, hP1.below hb2, rfl, rfl⟩
theorem max4_run (a b c d : Int) (W : World) : (Builtin.max_ #[3, 3, 3, 3] 3 #[.int .i64 a, .int .i64 b, .int .i64 c, .int .i64 d]).run Tryz.prog W = .ok (.int .i64 (max (max (max a b) c) d)) W := by
 have key : ∀ x y : Int, Builtin.max2 (.int .i64 x) (.int .i64 y) = pure (.int .i64 (max x y)) := by
  intro x y
  show (pure (.int .i64 (if y > x then y else x)) : Sem Value) = _
  congr 2
  split <;> omega
 show (List.foldlM Builtin.max2 _ _).run Tryz.prog W = _
 simp [List.foldlM, key]
theorem sqtooMany_any (x : Stm) (t : SS) (w : World) :
  Calls Tryz.prog 14 #[.agg #[.int .i64 x.kind, .string x.table, .string x.name, .slice t.co x.cols.length t.cc, .slice t.vo x.vals.length t.vc, .slice t.so x.sets.length t.sc, .slice t.qo x.conds.length t.qc, .bool x.uniq, .int .i64 x.type, .slice t.yo x.types.length t.yc]] w fun e w' => e = .returned (.bool (tooMany x)) ∧ Below w.heap.size w w' := by
 unfold tooMany
 obtain ⟨a, ha⟩ : ∃ a, x.cols.length = a := ⟨_, rfl⟩
 obtain ⟨b, hb⟩ : ∃ b, x.types.length = b := ⟨_, rfl⟩
 obtain ⟨c, hc⟩ : ∃ c, x.vals.length = c := ⟨_, rfl⟩
 obtain ⟨d, hd⟩ : ∃ d, x.sets.length = d := ⟨_, rfl⟩
 obtain ⟨e, he⟩ : ∃ e, x.conds.length = e := ⟨_, rfl⟩
 rw [ha, hb, hc, hd, he]
 clear ha hb hc hd he
 obtain ⟨M, hM⟩ : ∃ M, max (max (max a b) c) d = M := ⟨_, rfl⟩
 have hmx := max4_run a b c d
 rw [show max (max (max (a : Int) (b : Int)) (c : Int)) (d : Int) = (M : Int) by omega] at hmx
 rw [hM]
 clear hM
 by_cases h8 : 8 < M
 ·have g8 : (8 : Int) < (M : Int) := by omega
  rw [decide_eq_true h8, Bool.true_or]
  go_enter Tryz.func14, Tryz.ntmps14
  go_wp2
  go_ret
  exact ⟨rfl, (Below.refl _ w).alloc (Nat.le_refl _) _⟩
 ·have g8 : ¬ (8 : Int) < (M : Int) := by omega
  rw [decide_eq_false h8, Bool.false_or]
  by_cases h4 : 4 < e
  ·have g4 : (4 : Int) < (e : Int) := by omega
   rw [decide_eq_true h4]
   go_enter Tryz.func14, Tryz.ntmps14
   go_wp2
   go_ret
   exact ⟨rfl, (Below.refl _ w).alloc (Nat.le_refl _) _⟩
  ·have g4 : ¬ (4 : Int) < (e : Int) := by omega
   rw [decide_eq_false h4]
   go_enter Tryz.func14, Tryz.ntmps14
   go_wp2
   go_ret
   exact ⟨rfl, (Below.refl _ w).alloc (Nat.le_refl _) _⟩
end Go.Proofs.YtiajlhjjmlakmaaGreatDoor
namespace Go.Proofs.YtiajlhjjmlakmaaGreatDoor.Num
set_option linter.unusedSimpArgs false
set_option linter.unusedVariables false
set_option maxRecDepth 100000

def vocab : List ByteArray := [⟨#[110, 117, 108, 108]⟩, ⟨#[116, 114, 117, 101]⟩, ⟨#[102, 97, 108, 115, 101]⟩, ⟨#[40]⟩, ⟨#[41]⟩, ⟨#[44]⟩, ⟨#[61]⟩, ⟨#[60]⟩, ⟨#[62]⟩, ⟨#[105, 115]⟩, ⟨#[110, 111, 116]⟩, ⟨#[119, 104, 101, 114, 101]⟩, ⟨#[97, 110, 100]⟩, ⟨#[43]⟩, ⟨#[98, 111, 111, 108]⟩, ⟨#[105, 110, 116]⟩, ⟨#[102, 108, 111, 97, 116]⟩, ⟨#[98, 121, 116, 101, 115]⟩, ⟨#[116, 101, 120, 116]⟩, ⟨#[116, 97, 98, 108, 101]⟩, ⟨#[112, 114, 105, 109, 97, 114, 121]⟩, ⟨#[107, 101, 121]⟩, ⟨#[105, 110, 100, 101, 120]⟩, ⟨#[111, 110]⟩, ⟨#[99, 114, 101, 97, 116, 101]⟩, ⟨#[117, 110, 105, 113, 117, 101]⟩, ⟨#[97, 108, 116, 101, 114]⟩, ⟨#[97, 100, 100]⟩, ⟨#[99, 111, 108, 117, 109, 110]⟩, ⟨#[100, 101, 102, 97, 117, 108, 116]⟩, ⟨#[100, 114, 111, 112]⟩, ⟨#[115, 101, 116]⟩, ⟨#[105, 110, 115, 101, 114, 116]⟩, ⟨#[105, 110, 116, 111]⟩, ⟨#[118, 97, 108, 117, 101, 115]⟩, ⟨#[117, 112, 100, 97, 116, 101]⟩, ⟨#[100, 101, 108, 101, 116, 101]⟩, ⟨#[102, 114, 111, 109]⟩, ⟨#[115, 101, 108, 101, 99, 116]⟩, ⟨#[42]⟩, ⟨#[59]⟩]
structure LexL (l : List Tok) : Prop where
 fin : ∀ (i : Nat) (x : Tok), l[i]? = some x → i + 1 < l.length ∨ (x.k = 0 ∧ x.t = ⟨#[]⟩)
 voc : ∀ (i : Nat) (x : Tok), l[i]? = some x → ∀ s ∈ vocab, x.t = s → x.k = 1 ∨ x.k = 4
 nam : ∀ (i : Nat) (x : Tok), l[i]? = some x → ∀ (j : Nat) (y : Tok), l[j]? = some y → y.k = 2 → x.t = y.t → x.k = 2
theorem tokAt_some {l : List Tok} {i : Nat} (h : i < l.length) : l[i]? = some (tokAt l i) := by
 unfold tokAt
 rw [List.getElem?_eq_getElem h]
 rfl
theorem rem_tok {l : List Tok} {i : Nat} (h : i < l.length) : rem l i = cont (tokAt l i) :: rem l (i + 1) := rem_at (tokAt_some h)
theorem isD_isT {l : List Tok} (hl : LexL l) {s : ByteArray} (hs : s ∈ vocab) {S : DS} (hb : S.bad = false) (hi : S.i < l.length) : isD l s S = isT s (rem l S.i) := by
 rw [rem_tok hi, isT_iff]
 unfold isD
 rw [hb]
 by_cases ht : (tokAt l S.i).t = s
 ·have := hl.voc _ _ (tokAt_some hi) s hs ht
  rw [show (cont (tokAt l S.i)).2.1 = (tokAt l S.i).t from rfl, ht]
  rcases this with h | h <;> simp [h]
 ·rw [show (cont (tokAt l S.i)).2.1 = (tokAt l S.i).t from rfl]
  simp [ht]
def AgE {α : Type} (l : List Tok) (S : DS) (o : Option α × List TkC) (r : α × DS) : Prop := match o with
 | (some a, q) => r.1 = a ∧ r.2.bad = false ∧ S.i ≤ r.2.i ∧ r.2.i < l.length ∧ rem l r.2.i = q
 | (none, q) => r.2.bad = true ∧ ∃ j, j < l.length ∧ rem l j = q ∧ r.2.p = (tokAt l j).p
def Ag {α : Type} (l : List Tok) (rd : Rd α) (d : Dr α) : Prop := ∀ S, S.bad = false → S.i < l.length → AgE l S (rd (rem l S.i)) (d S)
theorem Ag.ret {α : Type} {l : List Tok} (x : α) : Ag l (ret x) (retD x) := fun S hb hi => ⟨rfl, hb, Nat.le_refl _, hi, rfl⟩
theorem Ag.bnd {α β : Type} {l : List Tok} {a : Rd α} {da : Dr α} {f : α → Rd β} {df : α → Dr β} (ha : Ag l a da) (hs : ∀ x, St (df x)) (hf : ∀ x, Ag l (f x) (df x)) : Ag l (bnd a f) (bndD da df) := fun S hb hi => by
 have h := ha S hb hi
 show AgE l S (match a (rem l S.i) with | (some x, q) => f x q | (none, q) => (none, q)) (bndD da df S)
 generalize a (rem l S.i) = z at h ⊢
 obtain ⟨o, q⟩ := z
 cases o with
 | none =>
  obtain ⟨h1, j, h2, h3, h4⟩ := h
  obtain ⟨h5, h6⟩ := hs (da S).1 (da S).2 h1
  exact ⟨h5, j, h2, h3, h6.trans h4⟩
 | some x =>
  obtain ⟨h1, h2, h3, h4, h5⟩ := h
  have h6 := hf x (da S).2 h2 h4
  rw [h5] at h6
  have e3 : bndD da df S = df x (da S).2 := by
   show df (da S).1 (da S).2 = _
   rw [h1]
  rw [e3]
  show AgE l S (f x q) _
  generalize f x q = y at h6 ⊢
  obtain ⟨o2, q2⟩ := y
  cases o2 with
  | none => exact h6
  | some y => exact ⟨h6.1, h6.2.1, Nat.le_trans h3 h6.2.2.1, h6.2.2.2.1, h6.2.2.2.2⟩
theorem fail_ag {α : Type} {l : List Tok} {S : DS} (hb : S.bad = false) (hi : S.i < l.length) (x : α) : AgE l S ((none, rem l S.i) : Option α × List TkC) (x, S.fail l) := by
 have e : S.fail l = { S with bad := true, p := (tokAt l S.i).p } := if_neg (by simp [hb])
 rw [e]
 exact ⟨rfl, S.i, hi, rfl, rfl⟩
theorem inc_lt {l : List Tok} (hl : LexL l) {S : DS} (hi : S.i < l.length) (hk : (tokAt l S.i).k ≠ 0) : S.i + 1 < l.length := by
 rcases hl.fin _ _ (tokAt_some hi) with h | h
 ·exact h
 ·exact absurd h.1 hk
theorem isT_k {l : List Tok} (hl : LexL l) {s : ByteArray} (hs : s ∈ vocab) {S : DS} (hi : S.i < l.length) (h : isT s (rem l S.i) = true) : (tokAt l S.i).k ≠ 0 := by
 rw [rem_tok hi, isT_iff] at h
 rcases hl.voc _ _ (tokAt_some hi) s hs (of_decide_eq_true h) with h | h <;> rw [h] <;> decide
theorem Ag.eat {l : List Tok} (hl : LexL l) {s : ByteArray} (hs : s ∈ vocab) : Ag l (takeR s) (eatD l s) := fun S hb hi => by
 unfold takeR eatD
 rw [isD_isT hl hs hb hi]
 cases h : isT s (rem l S.i) with
 | true =>
  rw [if_pos rfl, if_pos rfl]
  refine ⟨rfl, hb, Nat.le_succ _, inc_lt hl hi (isT_k hl hs hi h), ?_⟩
  rw [rem_tok hi]
  rfl
 | false =>
  rw [if_neg (by decide), if_neg (by decide)]
  exact fail_ag hb hi ()
theorem agE_le {α : Type} {l : List Tok} {S S' : DS} {o : Option α × List TkC} {r : α × DS} (h : AgE l S' o r) (hi : S.i ≤ S'.i) : AgE l S o r := by
 obtain ⟨o, q⟩ := o
 cases o with
 | none => exact h
 | some a => exact ⟨h.1, h.2.1, Nat.le_trans hi h.2.2.1, h.2.2.2.1, h.2.2.2.2⟩
theorem Ag.opt {α : Type} {l : List Tok} (hl : LexL l) {s : ByteArray} (hs : s ∈ vocab) {y n : Rd α} {dy dn : Dr α} {de : Dr Unit} (he : ∀ S, isD l s S = true → de S = ((), S.inc)) (hy : Ag l y dy) (hn : Ag l n dn) : Ag l (opt s y n) (optD l s (bndD de fun _ => dy) dn) := fun S hb hi => by
 unfold Num.opt optD
 rw [isD_isT hl hs hb hi]
 cases h : isT s (rem l S.i) with
 | true =>
  rw [if_pos rfl, if_pos rfl]
  have hd : isD l s S = true := by rw [isD_isT hl hs hb hi]; exact h
  have e : (bndD de fun _ => dy) S = dy S.inc := by
   show dy (de S).2 = _
   rw [he S hd]
  rw [e]
  have h2 := hy S.inc hb (inc_lt hl hi (isT_k hl hs hi h))
  have e2 : rem l S.inc.i = (rem l S.i).tail := by
   rw [rem_tok hi]
   rfl
  rw [e2] at h2
  exact agE_le h2 (Nat.le_succ _)
 | false =>
  rw [if_neg (by decide), if_neg (by decide)]
  exact hn S hb hi
theorem de_eat {l : List Tok} {s : ByteArray} : ∀ S, isD l s S = true → eatD l s S = ((), S.inc) := fun S h => if_pos h
theorem de_inc {l : List Tok} {s : ByteArray} : ∀ S, isD l s S = true → incD S = ((), S.inc) := fun S h => rfl
theorem kindR_tok {l : List Tok} {i : Nat} (hi : i < l.length) (k : Int) : kindR k (rem l i) = if (tokAt l i).k = k then (some (cont (tokAt l i)), rem l (i + 1)) else (none, rem l i) := by
 rw [rem_tok hi]
 rfl
theorem Ag.name {l : List Tok} (hl : LexL l) : Ag l nameR (nameD l) := fun S hb hi => by
 unfold nameR Num.bnd nameD
 rw [kindR_tok hi]
 by_cases hk : (tokAt l S.i).k = 2
 ·rw [if_pos hk, if_neg (by simp [hb, hk])]
  exact ⟨rfl, hb, Nat.le_succ _, inc_lt hl hi (by rw [hk]; decide), rfl⟩
 ·rw [if_neg hk, if_pos (Or.inr hk)]
  exact fail_ag hb hi _
theorem Ag.value {l : List Tok} (hl : LexL l) : Ag l valueR (valueD l) := by
 have e : valueD l = optD l ⟨#[110, 117, 108, 108]⟩ (bndD incD fun _ => retD ⟨0, 0, 0, ⟨#[]⟩⟩) (optD l ⟨#[116, 114, 117, 101]⟩ (bndD incD fun _ => retD ⟨1, 1, 0, ⟨#[]⟩⟩) (optD l ⟨#[102, 97, 108, 115, 101]⟩ (bndD incD fun _ => retD ⟨1, 0, 0, ⟨#[]⟩⟩) fun S => if S.bad = true ∨ (tokAt l S.i).k ≠ 3 then (⟨0, 0, 0, ⟨#[]⟩⟩, S.fail l) else ((tokAt l S.i).v, S.inc))) := rfl
 rw [e]
 refine .opt hl (by simp [vocab]) de_inc (.ret _) (.opt hl (by simp [vocab]) de_inc (.ret _) (.opt hl (by simp [vocab]) de_inc (.ret _) fun S hb hi => ?_))
 unfold Num.bnd
 rw [kindR_tok hi]
 by_cases hk : (tokAt l S.i).k = 3
 ·rw [if_pos hk, if_neg (by simp [hb, hk])]
  exact ⟨rfl, hb, Nat.le_succ _, inc_lt hl hi (by rw [hk]; decide), rfl⟩
 ·rw [if_neg hk, if_pos (Or.inr hk)]
  exact fail_ag hb hi _
theorem Ag.more {α : Type} {l : List Tok} (hl : LexL l) {s : ByteArray} (hs : s ∈ vocab) {rd : Rd α} {d : Dr α} (hd : Ag l rd d) (hst : St d) : ∀ (n m : Nat) (acc : List α) (S : DS), S.bad = false → S.i < l.length → l.length ≤ S.i + n → l.length ≤ S.i + m → AgE l S (listN s rd n acc (rem l S.i)) (moreD l s d m acc S)
 | 0, m, acc, S, hb, hi, hn, hm => by omega
 | n + 1, 0, acc, S, hb, hi, hn, hm => by omega
 | n + 1, m + 1, acc, S, hb, hi, hn, hm => by
  show AgE l S (Num.opt s (Num.bnd rd fun a => listN s rd n (acc ++ [a])) (Num.ret acc) (rem l S.i)) (optD l s (bndD (eatD l s) fun _ => bndD d fun a => moreD l s d m (acc ++ [a])) (retD acc) S)
  unfold Num.opt optD
  rw [isD_isT hl hs hb hi]
  cases h : isT s (rem l S.i) with
  | false =>
   rw [if_neg (by decide), if_neg (by decide)]
   exact ⟨rfl, hb, Nat.le_refl _, hi, rfl⟩
  | true =>
   rw [if_pos rfl, if_pos rfl]
   have hdt : isD l s S = true := by rw [isD_isT hl hs hb hi]; exact h
   have hlt := inc_lt hl hi (isT_k hl hs hi h)
   have e2 : rem l S.inc.i = (rem l S.i).tail := by
    rw [rem_tok hi]
    rfl
   have e : (bndD (eatD l s) fun _ => bndD d fun a => moreD l s d m (acc ++ [a])) S = moreD l s d m (acc ++ [(d S.inc).1]) (d S.inc).2 := by
    show (bndD d fun a => moreD l s d m (acc ++ [a])) (eatD l s S).2 = _
    rw [de_eat S hdt]
    rfl
   rw [e, ← e2]
   have h1 := hd S.inc hb hlt
   unfold Num.bnd
   rcases e3 : rd (rem l S.inc.i) with ⟨o, q⟩
   rw [e3] at h1
   cases o with
   | none =>
    obtain ⟨h1, j, h2, h3, h4⟩ := h1
    obtain ⟨h5, h6⟩ := (St.more (l := l) (s := s) (d := d) m (acc ++ [(d S.inc).1])) (d S.inc).2 h1
    exact ⟨h5, j, h2, h3, h6.trans h4⟩
   | some a =>
    obtain ⟨h1, h2, h3, h4, h5⟩ := h1
    have hle : S.i + 1 ≤ (d S.inc).2.i := h3
    have h6 := Ag.more hl hs hd hst n m (acc ++ [a]) (d S.inc).2 h2 h4 (by omega) (by omega)
    rw [h5] at h6
    rw [h1]
    exact agE_le h6 (by omega)
theorem Ag.list {α : Type} {l : List Tok} (hl : LexL l) {s : ByteArray} (hs : s ∈ vocab) {rd : Rd α} {d : Dr α} (hd : Ag l rd d) (hst : St d) : Ag l (listR s rd) (bndD d fun a => moreD l s d l.length [a]) := fun S hb hi => by
 have h := hd S hb hi
 unfold listR Num.bnd
 rcases e : rd (rem l S.i) with ⟨o, q⟩
 rw [e] at h
 cases o with
 | none =>
  obtain ⟨h1, j, h2, h3, h4⟩ := h
  obtain ⟨h5, h6⟩ := (St.more (l := l) (s := s) (d := d) l.length [(d S).1]) (d S).2 h1
  exact ⟨h5, j, h2, h3, h6.trans h4⟩
 | some a =>
  obtain ⟨h1, h2, h3, h4, h5⟩ := h
  have h6 := Ag.more hl hs hd hst (rem l S.i).length l.length [a] (d S).2 h2 h4 (by rw [rem_len]; omega) (by omega)
  rw [h5] at h6
  have e2 : (bndD d fun a => moreD l s d l.length [a]) S = moreD l s d l.length [(d S).1] (d S).2 := rfl
  rw [e2, h1]
  exact agE_le h6 h3
theorem Ag.row {α : Type} {l : List Tok} (hl : LexL l) {rd : Rd α} {d : Dr α} (hd : Ag l rd d) (hst : St d) : Ag l (rowR rd) (bndD (eatD l ⟨#[40]⟩) fun _ => bndD d fun a => bndD (moreD l ⟨#[44]⟩ d l.length [a]) fun ns => bndD (eatD l ⟨#[41]⟩) fun _ => retD ns) := by
 have e : (bndD (eatD l ⟨#[40]⟩) fun _ => bndD d fun a => bndD (moreD l ⟨#[44]⟩ d l.length [a]) fun ns => bndD (eatD l ⟨#[41]⟩) fun _ => retD ns) = (bndD (eatD l ⟨#[40]⟩) fun _ => bndD (bndD d fun a => moreD l ⟨#[44]⟩ d l.length [a]) fun ns => bndD (eatD l ⟨#[41]⟩) fun _ => retD ns) := rfl
 rw [e]
 exact .bnd (.eat hl (by simp [vocab])) (fun _ => .bnd (.bnd hst fun _ => .more _ _) fun _ => .bnd .eat fun _ => .ret _) fun _ => .bnd (.list hl (by simp [vocab]) hd hst) (fun _ => .bnd .eat fun _ => .ret _) fun ns => .bnd (.eat hl (by simp [vocab])) (fun _ => .ret _) fun _ => .ret _
theorem Ag.many {α : Type} {l : List Tok} {rd : Rd α} {d : Dr α} {b : α → Bool} (h : Ag l rd d) : Ag l rd (bndD d fun x => bndD (fun S => ((), S.many (b x))) fun _ => retD x) := fun S hb hi => by
 have h1 := h S hb hi
 have e : (bndD d fun x => bndD (fun S => ((), S.many (b x))) fun _ => retD x) S = ((d S).1, (d S).2.many (b (d S).1)) := rfl
 obtain ⟨m1, m2, m3, _⟩ := many_bad (d S).2 (b (d S).1)
 rw [e]
 rcases e2 : rd (rem l S.i) with ⟨o, q⟩
 rw [e2] at h1
 cases o with
 | none =>
  obtain ⟨h1, j, h2, h3, h4⟩ := h1
  exact ⟨m1.trans h1, j, h2, h3, m2.trans h4⟩
 | some a =>
  obtain ⟨h1, h2, h3, h4, h5⟩ := h1
  refine ⟨h1, m1.trans h2, ?_, ?_, ?_⟩
  ·show _ ≤ ((d S).2.many (b (d S).1)).i
   rw [m3]; exact h3
  ·show ((d S).2.many (b (d S).1)).i < _
   rw [m3]; exact h4
  ·show rem l ((d S).2.many (b (d S).1)).i = q
   rw [m3]; exact h5
theorem Ag.names {l : List Tok} (hl : LexL l) : Ag l (rowR nameR) (namesD l) := by
 have e : namesD l = bndD (bndD (eatD l ⟨#[40]⟩) fun _ => bndD (nameD l) fun a => bndD (moreD l ⟨#[44]⟩ (nameD l) l.length [a]) fun ns => bndD (eatD l ⟨#[41]⟩) fun _ => retD ns) fun x => bndD (fun S => ((), S.many (decide (8 < x.length)))) fun _ => retD x := rfl
 rw [e]
 exact .many (b := fun ns : List ByteArray => decide (8 < ns.length)) (.row hl (.name hl) .name)
theorem Ag.kind {l : List Tok} (hl : LexL l) : Ag l typeR (kindD l) :=
 .opt hl (by simp [vocab]) de_inc (.ret _) (.opt hl (by simp [vocab]) de_inc (.ret _) (.opt hl (by simp [vocab]) de_inc (.ret _) (.opt hl (by simp [vocab]) de_inc (.ret _) (fun S hb hi => by
  have h : Ag l (Num.opt ⟨#[116, 101, 120, 116]⟩ (Num.ret (5 : Int)) fun q => (none, q)) (optD l ⟨#[116, 101, 120, 116]⟩ (bndD incD fun _ => retD 5) (bndD (failD l) fun _ => retD 0)) := .opt hl (by simp [vocab]) de_inc (.ret _) fun S hb hi => fail_ag hb hi 0
  have h2 := h S hb hi
  have e : (Num.bnd (takeR ⟨#[116, 101, 120, 116]⟩) fun _ => Num.ret (5 : Int)) (rem l S.i) = (Num.opt ⟨#[116, 101, 120, 116]⟩ (Num.ret (5 : Int)) fun q => (none, q)) (rem l S.i) := by
   unfold Num.bnd takeR Num.opt
   cases isT ⟨#[116, 101, 120, 116]⟩ (rem l S.i) <;> rfl
  rw [e]
  exact h2))))
theorem Ag.column {l : List Tok} (hl : LexL l) : Ag l columnR (columnD l) := .bnd (.name hl) (fun _ => .bnd .kind fun _ => .ret _) fun _ => .bnd (.kind hl) (fun _ => .ret _) fun _ => .ret _
theorem takes2 (a b : ByteArray) : takesR [a, b] = Num.bnd (takeR a) fun _ => Num.bnd (takeR b) fun _ => Num.ret () := rfl
theorem bnd_assoc {α β γ : Type} (a : Rd α) (f : α → Rd β) (g : β → Rd γ) : Num.bnd (Num.bnd a f) g = Num.bnd a fun x => Num.bnd (f x) g := by
 funext q
 unfold Num.bnd
 rcases a q with ⟨o, r⟩
 cases o <;> rfl
theorem ret_bnd {α β : Type} (x : α) (f : α → Rd β) : Num.bnd (Num.ret x) f = f x := rfl
theorem bnd_opt {α β : Type} (s : ByteArray) (y n : Rd α) (f : α → Rd β) : Num.bnd (Num.opt s y n) f = Num.opt s (Num.bnd y f) (Num.bnd n f) := by
 funext q
 unfold Num.bnd Num.opt
 cases isT s q <;> rfl
theorem opt_swap {α : Type} {s t : ByteArray} (h : s ≠ t) (y n z : Rd α) : Num.opt s y (Num.opt t n z) = Num.opt t n (Num.opt s y z) := by
 funext q
 unfold Num.opt
 cases hs : isT s q with
 | false => simp
 | true =>
  have ht : isT t q = false := by
   cases q with
   | nil => rfl
   | cons x q =>
    rw [isT_iff] at hs ⊢
    exact decide_eq_false fun e => h ((of_decide_eq_true hs).symm.trans e)
  rw [ht, if_pos rfl, if_neg (by decide), if_pos rfl]
theorem take_opt {α : Type} (s : ByteArray) (f : Unit → Rd α) : Num.bnd (takeR s) f = Num.opt s (f ()) fun q => (none, q) := by
 funext q
 unfold Num.bnd takeR Num.opt
 cases isT s q <;> rfl
theorem condR_eq : condR = Num.bnd nameR fun c => Num.opt ⟨#[61]⟩ (Num.bnd valueR fun v => Num.ret ⟨c, 1, v⟩) (Num.opt ⟨#[60]⟩ (Num.bnd valueR fun v => Num.ret ⟨c, 2, v⟩) (Num.opt ⟨#[62]⟩ (Num.bnd valueR fun v => Num.ret ⟨c, 3, v⟩)
  (Num.bnd (takeR ⟨#[105, 115]⟩) fun _ => Num.opt ⟨#[110, 111, 116]⟩ (Num.bnd (takeR ⟨#[110, 117, 108, 108]⟩) fun _ => Num.ret ⟨c, 5, ⟨0, 0, 0, ⟨#[]⟩⟩⟩) (Num.bnd (takeR ⟨#[110, 117, 108, 108]⟩) fun _ => Num.ret ⟨c, 4, ⟨0, 0, 0, ⟨#[]⟩⟩⟩)))) := by
 unfold condR
 congr 1
 funext c
 have hs : ∀ F : Int → Rd Cnd, Num.bnd signR F = Num.opt ⟨#[61]⟩ (F 1) (Num.opt ⟨#[60]⟩ (F 2) (Num.opt ⟨#[62]⟩ (F 3) fun q => (none, q))) := fun F => by
  unfold signR
  rw [bnd_opt, bnd_opt, take_opt, bnd_opt]
  rfl
 rw [hs, opt_swap (s := ⟨#[105, 115]⟩) (t := ⟨#[61]⟩) (by simp), opt_swap (s := ⟨#[105, 115]⟩) (t := ⟨#[60]⟩) (by simp), opt_swap (s := ⟨#[105, 115]⟩) (t := ⟨#[62]⟩) (by simp), take_opt ⟨#[105, 115]⟩]
theorem Ag.cond {l : List Tok} (hl : LexL l) : Ag l condR (condD l) := by
 rw [condR_eq]
 exact .bnd (.name hl) (fun _ => .opt (.opt (.opt (.bnd .eat fun _ => .opt (.bnd .eat fun _ => .ret _))))) fun c =>
  .opt hl (by simp [vocab]) de_inc (.bnd (.value hl) (fun _ => .ret _) fun _ => .ret _) (.opt hl (by simp [vocab]) de_inc (.bnd (.value hl) (fun _ => .ret _) fun _ => .ret _) (.opt hl (by simp [vocab]) de_inc (.bnd (.value hl) (fun _ => .ret _) fun _ => .ret _)
  (.bnd (.eat hl (by simp [vocab])) (fun _ => .opt (.bnd .eat fun _ => .ret _)) fun _ => .opt hl (by simp [vocab]) de_eat (.bnd (.eat hl (by simp [vocab])) (fun _ => .ret _) fun _ => .ret _) (.bnd (.eat hl (by simp [vocab])) (fun _ => .ret _) fun _ => .ret _))))
theorem Ag.wher {l : List Tok} (hl : LexL l) : Ag l whereR (whereD l) := by
 have e : whereD l = optD l ⟨#[119, 104, 101, 114, 101]⟩ (bndD (eatD l ⟨#[119, 104, 101, 114, 101]⟩) fun _ => bndD (bndD (condD l) fun a => moreD l ⟨#[97, 110, 100]⟩ (condD l) l.length [a]) fun cs => bndD (fun S => ((), S.many (decide (4 < cs.length)))) fun _ => retD cs) (retD []) := rfl
 rw [e]
 exact .opt hl (by simp [vocab]) de_eat (.many (b := fun cs : List Cnd => decide (4 < cs.length)) (.list hl (by simp [vocab]) (.cond hl) .cond)) (.ret _)
theorem Ag.bndP {α β : Type} {l : List Tok} {P : α → Prop} {a : Rd α} {da : Dr α} {f : α → Rd β} {df : α → Dr β} (ha : Ag l a da) (hp : ∀ i x q, i < l.length → a (rem l i) = (some x, q) → P x) (hs : ∀ x, St (df x)) (hf : ∀ x, P x → Ag l (f x) (df x)) : Ag l (Num.bnd a f) (bndD da df) := fun S hb hi => by
 rcases e : a (rem l S.i) with ⟨o, q⟩
 have h := ha S hb hi
 rw [e] at h
 cases o with
 | none =>
  have e2 : Num.bnd a f (rem l S.i) = (none, q) := by unfold Num.bnd; rw [e]
  rw [e2]
  obtain ⟨h1, j, h2, h3, h4⟩ := h
  obtain ⟨h5, h6⟩ := hs (da S).1 (da S).2 h1
  exact ⟨h5, j, h2, h3, h6.trans h4⟩
 | some x =>
  have e2 : Num.bnd a f (rem l S.i) = f x q := by unfold Num.bnd; rw [e]
  rw [e2]
  obtain ⟨h1, h2, h3, h4, h5⟩ := h
  have h6 := hf x (hp S.i x q hi e) (da S).2 h2 h4
  rw [h5] at h6
  have e3 : bndD da df S = df x (da S).2 := by
   show df (da S).1 (da S).2 = _
   rw [h1]
  rw [e3]
  exact agE_le h6 h3
theorem nameR_is {l : List Tok} {i : Nat} {c : ByteArray} {q : List TkC} (hi : i < l.length) (h : nameR (rem l i) = (some c, q)) : ∃ (j : Nat) (y : Tok), l[j]? = some y ∧ y.k = 2 ∧ y.t = c := by
 unfold nameR Num.bnd at h
 rw [kindR_tok hi] at h
 by_cases hk : (tokAt l i).k = 2
 ·rw [if_pos hk] at h
  exact ⟨i, tokAt l i, tokAt_some hi, hk, Option.some.inj (congrArg Prod.fst h)⟩
 ·rw [if_neg hk] at h
  cases h
def restD (l : List Tok) (c : ByteArray) : Dr Sett := fun S =>
 if S.bad = false ∧ (tokAt l S.i).k = 2 then (bndD (if (tokAt l S.i).t ≠ c then failD l else incD) fun _ => bndD (eatD l ⟨#[43]⟩) fun _ => bndD (valueD l) fun v => retD ⟨c, true, v⟩) S
 else (bndD (valueD l) fun v => retD ⟨c, false, v⟩) S
theorem setD1_eq (l : List Tok) : setD1 l = bndD (nameD l) fun c => bndD (eatD l ⟨#[61]⟩) fun _ => restD l c := rfl
theorem St.setR {l : List Tok} {c : ByteArray} : St (restD l c) := fun S h => by
 have e : restD l c S = (bndD (valueD l) fun v => retD ⟨c, false, v⟩) S := if_neg (by simp [h])
 rw [e]
 exact (St.bnd St.value fun _ => St.ret _) S h
theorem Ag.set {l : List Tok} (hl : LexL l) : Ag l setR (setD1 l) := by
 rw [setD1_eq]
 exact .bndP (P := fun c => ∃ (j : Nat) (y : Tok), l[j]? = some y ∧ y.k = 2 ∧ y.t = c) (.name hl) (fun i x q hi h => nameR_is hi h) (fun c => .bnd .eat fun _ => .setR) fun c hc => .bnd (.eat hl (by simp [vocab])) (fun _ => .setR) fun _ => fun S hb hi => by
  obtain ⟨j, y, hj, hy, rfl⟩ := hc
  have hnv : Ag l (Num.bnd valueR fun v => Num.ret (⟨y.t, false, v⟩ : Sett)) (bndD (valueD l) fun v => retD ⟨y.t, false, v⟩) := .bnd (.value hl) (fun _ => .ret _) fun _ => .ret _
  have hyv : Ag l (Num.bnd (takeR ⟨#[43]⟩) fun _ => Num.bnd valueR fun v => Num.ret (⟨y.t, true, v⟩ : Sett)) (bndD (eatD l ⟨#[43]⟩) fun _ => bndD (valueD l) fun v => retD ⟨y.t, true, v⟩) := .bnd (.eat hl (by simp [vocab])) (fun _ => .bnd .value fun _ => .ret _) fun _ => .bnd (.value hl) (fun _ => .ret _) fun _ => .ret _
  have hT : isT y.t (rem l S.i) = decide ((tokAt l S.i).t = y.t) := by rw [rem_tok hi, isT_iff]; rfl
  have eT : ∀ (Y N : Rd Sett), Num.opt y.t Y N (rem l S.i) = if decide ((tokAt l S.i).t = y.t) = true then Y (rem l S.i).tail else N (rem l S.i) := fun Y N => by unfold Num.opt; rw [hT]
  rw [eT]
  by_cases hk : (tokAt l S.i).k = 2
  ·have eD : restD l y.t S = (bndD (if (tokAt l S.i).t ≠ y.t then failD l else incD) fun _ => bndD (eatD l ⟨#[43]⟩) fun _ => bndD (valueD l) fun v => retD ⟨y.t, true, v⟩) S := if_pos ⟨hb, hk⟩
   rw [eD]
   have hlt := inc_lt hl hi (by rw [hk]; decide)
   by_cases ht : (tokAt l S.i).t = y.t
   ·rw [decide_eq_true ht, if_pos rfl, if_neg (show ¬ (tokAt l S.i).t ≠ y.t from fun h => h ht)]
    have h2 := hyv S.inc hb hlt
    have e2 : rem l S.inc.i = (rem l S.i).tail := by rw [rem_tok hi]; rfl
    rw [e2] at h2
    exact agE_le h2 (Nat.le_succ _)
   ·rw [decide_eq_false ht, if_neg (by decide), if_pos (show (tokAt l S.i).t ≠ y.t from ht)]
    have hno : ∀ s ∈ vocab, isT s (rem l S.i) = false := fun s hs => by
     rw [rem_tok hi, isT_iff]
     refine decide_eq_false fun e => ?_
     rcases hl.voc _ _ (tokAt_some hi) s hs e with h | h <;> omega
    have hv : valueR (rem l S.i) = (none, rem l S.i) := by
     unfold valueR Num.opt
     rw [hno _ (by simp [vocab]), hno _ (by simp [vocab]), hno _ (by simp [vocab]), if_neg (by decide), if_neg (by decide), if_neg (by decide)]
     unfold Num.bnd
     rw [kindR_tok hi, if_neg (by omega)]
    have e3 : (Num.bnd valueR fun v => Num.ret (⟨y.t, false, v⟩ : Sett)) (rem l S.i) = (none, rem l S.i) := by unfold Num.bnd; rw [hv]
    rw [e3]
    obtain ⟨h1, j2, h2, h3, h4⟩ := fail_ag (α := Unit) hb hi ()
    have hst : St (bndD (eatD l ⟨#[43]⟩) fun _ => bndD (valueD l) fun v => retD (⟨y.t, true, v⟩ : Sett)) := .bnd .eat fun _ => .bnd .value fun _ => .ret _
    obtain ⟨h5, h6⟩ := hst (S.fail l) h1
    exact ⟨h5, j2, h2, h3, h6.trans h4⟩
  ·have eD : restD l y.t S = (bndD (valueD l) fun v => retD ⟨y.t, false, v⟩) S := if_neg (fun h => hk h.2)
   rw [eD]
   have ht : ¬ (tokAt l S.i).t = y.t := fun e => hk (hl.nam _ _ (tokAt_some hi) j y hj hy e)
   rw [decide_eq_false ht, if_neg (by decide)]
   exact hnv S hb hi
theorem Ag.sets {l : List Tok} (hl : LexL l) : Ag l (listR ⟨#[44]⟩ setR) (setsD l) := by
 have e : setsD l = bndD (bndD (setD1 l) fun a => moreD l ⟨#[44]⟩ (setD1 l) l.length [a]) fun x => bndD (fun S => ((), S.many (decide (8 < x.length)))) fun _ => retD x := rfl
 rw [e]
 exact .many (b := fun ss : List Sett => decide (8 < ss.length)) (.list hl (by simp [vocab]) (.set hl) .set)

theorem listN_pre {α : Type} (s : ByteArray) (rd : Rd α) (c : α) : ∀ (n : Nat) (acc : List α), (bnd (listN s rd n acc) fun cs => ret (c :: cs)) = listN s rd n (c :: acc)
 | 0, acc => rfl
 | n + 1, acc => by
  show bnd (opt s (bnd rd fun a => listN s rd n (acc ++ [a])) (ret acc)) (fun cs => ret (c :: cs)) = opt s (bnd rd fun a => listN s rd n (c :: acc ++ [a])) (ret (c :: acc))
  rw [bnd_opt, bnd_assoc]
  congr 1
  congr 1
  funext a
  exact listN_pre s rd c n (acc ++ [a])
theorem more_opt {α : Type} (s : ByteArray) (rd : Rd α) (c : α) (x : TkC) (q : List TkC) : (bnd (opt s (listR s rd) (ret [])) fun cs => ret (c :: cs)) (x :: q) = listN s rd (q.length + 1) [c] (x :: q) := by
 rw [bnd_opt]
 show opt s _ _ _ = opt s (bnd rd fun a => listN s rd q.length ([c] ++ [a])) (ret [c]) (x :: q)
 unfold opt
 cases isT s (x :: q) with
 | false => rfl
 | true =>
  rw [if_pos rfl, if_pos rfl]
  show bnd (fun r => bnd rd (fun a => listN s rd r.length [a]) r) (fun cs => ret (c :: cs)) q = bnd rd (fun a => listN s rd q.length ([c] ++ [a])) q
  have e : bnd (fun r => bnd rd (fun a => listN s rd r.length [a]) r) (fun cs => ret (c :: cs)) q = bnd (bnd rd fun a => listN s rd q.length [a]) (fun cs => ret (c :: cs)) q := rfl
  rw [e, bnd_assoc]
  congr 1
  funext a
  exact listN_pre s rd c q.length [a]
theorem ag_cols {l : List Tok} (hl : LexL l) (c : ByteArray × Int) : Ag l (bnd (opt ⟨#[44]⟩ (listR ⟨#[44]⟩ columnR) (ret [])) fun cs => ret (c :: cs)) (moreD l ⟨#[44]⟩ (columnD l) l.length [c]) := fun S hb hi => by
 have h := Ag.more hl (s := ⟨#[44]⟩) (by simp [vocab]) (.column hl) .column (rem l S.i).length l.length [c] S hb hi (by rw [rem_len]; omega) (by omega)
 have e : (bnd (opt ⟨#[44]⟩ (listR ⟨#[44]⟩ columnR) (ret [])) fun cs => ret (c :: cs)) (rem l S.i) = listN ⟨#[44]⟩ columnR (rem l S.i).length [c] (rem l S.i) := by
  rw [rem_tok hi]
  exact more_opt _ _ _ _ _
 show AgE l S (Num.bnd (Num.opt ⟨#[44]⟩ (listR ⟨#[44]⟩ columnR) (Num.ret [])) (fun cs => Num.ret (c :: cs)) (rem l S.i)) _
 rw [e]
 exact h
theorem tableR_eq : tableR = bnd nameR fun t => bnd (takeR ⟨#[40]⟩) fun _ => bnd columnR fun c => bnd (takeR ⟨#[112, 114, 105, 109, 97, 114, 121]⟩) fun _ => bnd (takeR ⟨#[107, 101, 121]⟩) fun _ => bnd (bnd (opt ⟨#[44]⟩ (listR ⟨#[44]⟩ columnR) (ret [])) fun cs => ret (c :: cs)) fun cs => bnd (takeR ⟨#[41]⟩) fun _ => ret { Stm.zero with kind := 5, table := t, cols := cs.map (·.1), types := cs.map (·.2) } := by
 unfold tableR
 simp only [takes2, bnd_assoc, ret_bnd]
theorem ag_table {l : List Tok} (hl : LexL l) : Ag l tableR (bndD (nameD l) fun t => bndD (eatD l ⟨#[40]⟩) fun _ => bndD (columnD l) fun c => bndD (eatD l ⟨#[112, 114, 105, 109, 97, 114, 121]⟩) fun _ => bndD (eatD l ⟨#[107, 101, 121]⟩) fun _ => bndD (moreD l ⟨#[44]⟩ (columnD l) l.length [c]) fun cs => bndD (eatD l ⟨#[41]⟩) fun _ => bndD (mostD cs.length) fun _ => retD { Stm.zero with kind := 5, table := t, cols := cs.map (·.1), types := cs.map (·.2) }) := by
 rw [tableR_eq]
 refine .bnd (.name hl) (fun _ => .bnd .eat fun _ => .bnd .column fun _ => .bnd .eat fun _ => .bnd .eat fun _ => .bnd (.more _ _) fun _ => .bnd .eat fun _ => .bnd .many fun _ => .ret _) fun t =>
  .bnd (.eat hl (by simp [vocab])) (fun _ => .bnd .column fun _ => .bnd .eat fun _ => .bnd .eat fun _ => .bnd (.more _ _) fun _ => .bnd .eat fun _ => .bnd .many fun _ => .ret _) fun _ =>
  .bnd (.column hl) (fun _ => .bnd .eat fun _ => .bnd .eat fun _ => .bnd (.more _ _) fun _ => .bnd .eat fun _ => .bnd .many fun _ => .ret _) fun c =>
  .bnd (.eat hl (by simp [vocab])) (fun _ => .bnd .eat fun _ => .bnd (.more _ _) fun _ => .bnd .eat fun _ => .bnd .many fun _ => .ret _) fun _ =>
  .bnd (.eat hl (by simp [vocab])) (fun _ => .bnd (.more _ _) fun _ => .bnd .eat fun _ => .bnd .many fun _ => .ret _) fun _ => ?_
 refine .bnd (ag_cols hl c) (fun _ => .bnd .eat fun _ => .bnd .many fun _ => .ret _) fun cs => ?_
 exact .many (b := fun x : Stm => decide (8 < cs.length)) (d := bndD (eatD l ⟨#[41]⟩) fun _ => retD { Stm.zero with kind := 5, table := t, cols := cs.map (·.1), types := cs.map (·.2) }) (.bnd (.eat hl (by simp [vocab])) (fun _ => .ret _) fun _ => .ret _)
theorem ag_index {l : List Tok} (hl : LexL l) (u : Bool) : Ag l (addIndexR u) (indexD l u) := by
 have e : addIndexR u = bnd (takeR ⟨#[105, 110, 100, 101, 120]⟩) fun _ => bnd nameR fun n => bnd (takeR ⟨#[111, 110]⟩) fun _ => bnd nameR fun t => bnd (rowR nameR) fun cs => ret { Stm.zero with kind := 6, name := n, table := t, uniq := u, cols := cs } := by
  unfold addIndexR indexR
  simp only [bnd_assoc, ret_bnd]
 rw [e]
 exact .bnd (.eat hl (by simp [vocab])) (fun _ => .bnd .name fun _ => .bnd .eat fun _ => .bnd .name fun _ => .bnd .names fun _ => .ret _) fun _ => .bnd (.name hl) (fun _ => .bnd .eat fun _ => .bnd .name fun _ => .bnd .names fun _ => .ret _) fun _ => .bnd (.eat hl (by simp [vocab])) (fun _ => .bnd .name fun _ => .bnd .names fun _ => .ret _) fun _ => .bnd (.name hl) (fun _ => .bnd .names fun _ => .ret _) fun _ => .bnd (.names hl) (fun _ => .ret _) fun _ => .ret _
theorem ag_create {l : List Tok} (hl : LexL l) : Ag l createR (optD l ⟨#[116, 97, 98, 108, 101]⟩ (tableD l) (optD l ⟨#[117, 110, 105, 113, 117, 101]⟩ (bndD (eatD l ⟨#[117, 110, 105, 113, 117, 101]⟩) fun _ => indexD l true) (indexD l false))) :=
 .opt hl (by simp [vocab]) de_eat (ag_table hl) (.opt hl (by simp [vocab]) de_eat (ag_index hl true) (ag_index hl false))
theorem alterR_eq : alterR = bnd (takeR ⟨#[116, 97, 98, 108, 101]⟩) fun _ => bnd nameR fun t => opt ⟨#[97, 100, 100]⟩
  (bnd (takeR ⟨#[99, 111, 108, 117, 109, 110]⟩) fun _ => bnd nameR fun n => bnd typeR fun k => opt ⟨#[100, 101, 102, 97, 117, 108, 116]⟩ (bnd valueR fun v => ret { Stm.zero with kind := 8, table := t, name := n, type := k, vals := [v] }) (ret { Stm.zero with kind := 8, table := t, name := n, type := k, vals := [] }))
  (opt ⟨#[100, 114, 111, 112]⟩ (bnd (takeR ⟨#[99, 111, 108, 117, 109, 110]⟩) fun _ => bnd nameR fun n => ret { Stm.zero with kind := 9, table := t, name := n })
  (bnd (takeR ⟨#[97, 108, 116, 101, 114]⟩) fun _ => bnd (takeR ⟨#[99, 111, 108, 117, 109, 110]⟩) fun _ => bnd nameR fun n => opt ⟨#[100, 114, 111, 112]⟩ (bnd (takeR ⟨#[110, 111, 116]⟩) fun _ => bnd (takeR ⟨#[110, 117, 108, 108]⟩) fun _ => ret { Stm.zero with kind := 11, table := t, name := n }) (bnd (takeR ⟨#[115, 101, 116]⟩) fun _ => bnd (takeR ⟨#[110, 111, 116]⟩) fun _ => bnd (takeR ⟨#[110, 117, 108, 108]⟩) fun _ => ret { Stm.zero with kind := 10, table := t, name := n }))) := by
 have hn : ∀ F : Int → Rd Stm, bnd nullR F = opt ⟨#[100, 114, 111, 112]⟩ (bnd (takeR ⟨#[110, 111, 116]⟩) fun _ => bnd (takeR ⟨#[110, 117, 108, 108]⟩) fun _ => F 11) (bnd (takeR ⟨#[115, 101, 116]⟩) fun _ => bnd (takeR ⟨#[110, 111, 116]⟩) fun _ => bnd (takeR ⟨#[110, 117, 108, 108]⟩) fun _ => F 10) := fun F => by
  unfold nullR
  rw [bnd_assoc, bnd_opt, bnd_assoc, take_opt ⟨#[100, 114, 111, 112]⟩, opt_swap (s := ⟨#[115, 101, 116]⟩) (t := ⟨#[100, 114, 111, 112]⟩) (by simp), take_opt ⟨#[115, 101, 116]⟩]
  simp only [ret_bnd, takes2, bnd_assoc]
 unfold alterR addColumnR dropColumnR
 simp only [takes2, bnd_assoc, ret_bnd, bnd_opt, hn]
def alterE (l : List Tok) : Dr Stm := bndD (eatD l ⟨#[116, 97, 98, 108, 101]⟩) fun _ => bndD (nameD l) fun t =>
 optD l ⟨#[97, 100, 100]⟩ (bndD (eatD l ⟨#[97, 100, 100]⟩) fun _ => bndD (eatD l ⟨#[99, 111, 108, 117, 109, 110]⟩) fun _ => bndD (nameD l) fun n => bndD (kindD l) fun k =>
  optD l ⟨#[100, 101, 102, 97, 117, 108, 116]⟩ (bndD (eatD l ⟨#[100, 101, 102, 97, 117, 108, 116]⟩) fun _ => bndD (valueD l) fun v => retD { Stm.zero with kind := 8, table := t, name := n, type := k, vals := [v] }) (retD { Stm.zero with kind := 8, table := t, name := n, type := k, vals := [] }))
 (optD l ⟨#[100, 114, 111, 112]⟩ (bndD (eatD l ⟨#[100, 114, 111, 112]⟩) fun _ => bndD (eatD l ⟨#[99, 111, 108, 117, 109, 110]⟩) fun _ => bndD (nameD l) fun n => retD { Stm.zero with kind := 9, table := t, name := n })
 (bndD (eatD l ⟨#[97, 108, 116, 101, 114]⟩) fun _ => bndD (eatD l ⟨#[99, 111, 108, 117, 109, 110]⟩) fun _ => bndD (nameD l) fun n => optD l ⟨#[100, 114, 111, 112]⟩
  (bndD (eatD l ⟨#[100, 114, 111, 112]⟩) fun _ => bndD (eatD l ⟨#[110, 111, 116]⟩) fun _ => bndD (eatD l ⟨#[110, 117, 108, 108]⟩) fun _ => retD { Stm.zero with kind := 11, table := t, name := n })
  (bndD (eatD l ⟨#[115, 101, 116]⟩) fun _ => bndD (eatD l ⟨#[110, 111, 116]⟩) fun _ => bndD (eatD l ⟨#[110, 117, 108, 108]⟩) fun _ => retD { Stm.zero with kind := 10, table := t, name := n })))
theorem alterD_eq (l : List Tok) : alterD l = bndD (eatD l ⟨#[97, 108, 116, 101, 114]⟩) fun _ => alterE l := rfl
theorem ag_alter {l : List Tok} (hl : LexL l) : Ag l alterR (alterE l) := by
 rw [alterR_eq]
 exact .bnd (.eat hl (by simp [vocab])) (fun _ => .bnd .name fun _ => .opt (.opt (.bnd .eat fun _ => .bnd .eat fun _ => .bnd .name fun _ => .opt (.bnd .eat fun _ => .bnd .eat fun _ => .bnd .eat fun _ => .ret _)))) fun _ =>
  .bnd (.name hl) (fun _ => .opt (.opt (.bnd .eat fun _ => .bnd .eat fun _ => .bnd .name fun _ => .opt (.bnd .eat fun _ => .bnd .eat fun _ => .bnd .eat fun _ => .ret _)))) fun t =>
  .opt hl (by simp [vocab]) de_eat (.bnd (.eat hl (by simp [vocab])) (fun _ => .bnd .name fun _ => .bnd .kind fun _ => .opt (.ret _)) fun _ => .bnd (.name hl) (fun _ => .bnd .kind fun _ => .opt (.ret _)) fun n => .bnd (.kind hl) (fun _ => .opt (.ret _)) fun k => .opt hl (by simp [vocab]) de_eat (.bnd (.value hl) (fun _ => .ret _) fun v => .ret _) (.ret _))
  (.opt hl (by simp [vocab]) de_eat (.bnd (.eat hl (by simp [vocab])) (fun _ => .bnd .name fun _ => .ret _) fun _ => .bnd (.name hl) (fun _ => .ret _) fun n => .ret _)
  (.bnd (.eat hl (by simp [vocab])) (fun _ => .bnd .eat fun _ => .bnd .name fun _ => .opt (.bnd .eat fun _ => .bnd .eat fun _ => .bnd .eat fun _ => .ret _)) fun _ => .bnd (.eat hl (by simp [vocab])) (fun _ => .bnd .name fun _ => .opt (.bnd .eat fun _ => .bnd .eat fun _ => .bnd .eat fun _ => .ret _)) fun _ => .bnd (.name hl) (fun _ => .opt (.bnd .eat fun _ => .bnd .eat fun _ => .bnd .eat fun _ => .ret _)) fun n =>
   .opt hl (by simp [vocab]) de_eat (.bnd (.eat hl (by simp [vocab])) (fun _ => .bnd .eat fun _ => .ret _) fun _ => .bnd (.eat hl (by simp [vocab])) (fun _ => .ret _) fun _ => .ret _)
   (.bnd (.eat hl (by simp [vocab])) (fun _ => .bnd .eat fun _ => .bnd .eat fun _ => .ret _) fun _ => .bnd (.eat hl (by simp [vocab])) (fun _ => .bnd .eat fun _ => .ret _) fun _ => .bnd (.eat hl (by simp [vocab])) (fun _ => .ret _) fun _ => .ret _)))
theorem ag_vals {l : List Tok} (hl : LexL l) {f : List Val → Stm} : Ag l (bnd (rowR valueR) fun vs => ret (f vs)) (bndD (eatD l ⟨#[40]⟩) fun _ => bndD (valueD l) fun v => bndD (moreD l ⟨#[44]⟩ (valueD l) l.length [v]) fun vs => bndD (eatD l ⟨#[41]⟩) fun _ => bndD (mostD vs.length) fun _ => retD (f vs)) := by
 have e : (bndD (eatD l ⟨#[40]⟩) fun _ => bndD (valueD l) fun v => bndD (moreD l ⟨#[44]⟩ (valueD l) l.length [v]) fun vs => bndD (eatD l ⟨#[41]⟩) fun _ => bndD (mostD vs.length) fun _ => retD (f vs)) = bndD (bndD (bndD (eatD l ⟨#[40]⟩) fun _ => bndD (valueD l) fun v => bndD (moreD l ⟨#[44]⟩ (valueD l) l.length [v]) fun vs => bndD (eatD l ⟨#[41]⟩) fun _ => retD vs) fun x => bndD (fun S => ((), S.many (decide (8 < x.length)))) fun _ => retD x) fun vs => retD (f vs) := rfl
 rw [e]
 exact .bnd (.many (b := fun ns : List Val => decide (8 < ns.length)) (.row hl (.value hl) .value)) (fun _ => .ret _) fun _ => .ret _
theorem ag_insert {l : List Tok} (hl : LexL l) : Ag l insertR (bndD (eatD l ⟨#[105, 110, 116, 111]⟩) fun _ => bndD (nameD l) fun t => bndD (namesD l) fun cs => bndD (eatD l ⟨#[118, 97, 108, 117, 101, 115]⟩) fun _ => bndD (eatD l ⟨#[40]⟩) fun _ => bndD (valueD l) fun v => bndD (moreD l ⟨#[44]⟩ (valueD l) l.length [v]) fun vs => bndD (eatD l ⟨#[41]⟩) fun _ => bndD (mostD vs.length) fun _ => retD { Stm.zero with kind := 1, table := t, cols := cs, vals := vs }) :=
 .bnd (.eat hl (by simp [vocab])) (fun _ => .bnd .name fun _ => .bnd .names fun _ => .bnd .eat fun _ => .bnd .eat fun _ => .bnd .value fun _ => .bnd (.more _ _) fun _ => .bnd .eat fun _ => .bnd .many fun _ => .ret _) fun _ =>
 .bnd (.name hl) (fun _ => .bnd .names fun _ => .bnd .eat fun _ => .bnd .eat fun _ => .bnd .value fun _ => .bnd (.more _ _) fun _ => .bnd .eat fun _ => .bnd .many fun _ => .ret _) fun t =>
 .bnd (.names hl) (fun _ => .bnd .eat fun _ => .bnd .eat fun _ => .bnd .value fun _ => .bnd (.more _ _) fun _ => .bnd .eat fun _ => .bnd .many fun _ => .ret _) fun cs =>
 .bnd (.eat hl (by simp [vocab])) (fun _ => .bnd .eat fun _ => .bnd .value fun _ => .bnd (.more _ _) fun _ => .bnd .eat fun _ => .bnd .many fun _ => .ret _) fun _ => ag_vals hl
theorem ag_update {l : List Tok} (hl : LexL l) : Ag l updateR (bndD (nameD l) fun t => bndD (eatD l ⟨#[115, 101, 116]⟩) fun _ => bndD (setsD l) fun ss => bndD (whereD l) fun cs => retD { Stm.zero with kind := 2, table := t, sets := ss, conds := cs }) :=
 .bnd (.name hl) (fun _ => .bnd .eat fun _ => .bnd .sets fun _ => .bnd .wher fun _ => .ret _) fun t => .bnd (.eat hl (by simp [vocab])) (fun _ => .bnd .sets fun _ => .bnd .wher fun _ => .ret _) fun _ => .bnd (.sets hl) (fun _ => .bnd .wher fun _ => .ret _) fun _ => .bnd (.wher hl) (fun _ => .ret _) fun _ => .ret _
theorem ag_delete {l : List Tok} (hl : LexL l) : Ag l deleteR (bndD (eatD l ⟨#[102, 114, 111, 109]⟩) fun _ => bndD (nameD l) fun t => bndD (whereD l) fun cs => retD { Stm.zero with kind := 3, table := t, conds := cs }) :=
 .bnd (.eat hl (by simp [vocab])) (fun _ => .bnd .name fun _ => .bnd .wher fun _ => .ret _) fun _ => .bnd (.name hl) (fun _ => .bnd .wher fun _ => .ret _) fun _ => .bnd (.wher hl) (fun _ => .ret _) fun _ => .ret _
theorem ag_select {l : List Tok} (hl : LexL l) : Ag l (bnd (takeR ⟨#[115, 101, 108, 101, 99, 116]⟩) fun _ => selectR) (selectD l) := by
 have e : selectR = opt ⟨#[42]⟩ (bnd (takeR ⟨#[102, 114, 111, 109]⟩) fun _ => bnd nameR fun t => bnd whereR fun cs => ret { Stm.zero with kind := 4, table := t, cols := [], conds := cs }) (bnd (listR ⟨#[44]⟩ nameR) fun ns => bnd (takeR ⟨#[102, 114, 111, 109]⟩) fun _ => bnd nameR fun t => bnd whereR fun cs => ret { Stm.zero with kind := 4, table := t, cols := ns, conds := cs }) := by
  unfold selectR
  rw [bnd_opt, ret_bnd]
 have e2 : selectD l = bndD (eatD l ⟨#[115, 101, 108, 101, 99, 116]⟩) fun _ => optD l ⟨#[42]⟩ (bndD (eatD l ⟨#[42]⟩) fun _ => bndD (eatD l ⟨#[102, 114, 111, 109]⟩) fun _ => bndD (nameD l) fun t => bndD (whereD l) fun cs => retD { Stm.zero with kind := 4, table := t, cols := [], conds := cs })
   (bndD (bndD (bndD (nameD l) fun a => moreD l ⟨#[44]⟩ (nameD l) l.length [a]) fun x => bndD (fun S => ((), S.many (decide (8 < x.length)))) fun _ => retD x) fun ns => bndD (eatD l ⟨#[102, 114, 111, 109]⟩) fun _ => bndD (nameD l) fun t => bndD (whereD l) fun cs => retD { Stm.zero with kind := 4, table := t, cols := ns, conds := cs }) := rfl
 rw [e, e2]
 exact .bnd (.eat hl (by simp [vocab])) (fun _ => .opt (.bnd (.bnd (.bnd .name fun _ => .more _ _) fun _ => .bnd .many fun _ => .ret _) fun _ => .bnd .eat fun _ => .bnd .name fun _ => .bnd .wher fun _ => .ret _)) fun _ =>
  .opt hl (by simp [vocab]) de_eat (.bnd (.eat hl (by simp [vocab])) (fun _ => .bnd .name fun _ => .bnd .wher fun _ => .ret _) fun _ => .bnd (.name hl) (fun _ => .bnd .wher fun _ => .ret _) fun _ => .bnd (.wher hl) (fun _ => .ret _) fun _ => .ret _)
  (.bnd (.many (b := fun ns : List ByteArray => decide (8 < ns.length)) (.list hl (by simp [vocab]) (.name hl) .name)) (fun _ => .bnd .eat fun _ => .bnd .name fun _ => .bnd .wher fun _ => .ret _) fun _ => .bnd (.eat hl (by simp [vocab])) (fun _ => .bnd .name fun _ => .bnd .wher fun _ => .ret _) fun _ => .bnd (.name hl) (fun _ => .bnd .wher fun _ => .ret _) fun _ => .bnd (.wher hl) (fun _ => .ret _) fun _ => .ret _)
theorem ag_drop {l : List Tok} (hl : LexL l) : Ag l dropIndexR (bndD (eatD l ⟨#[105, 110, 100, 101, 120]⟩) fun _ => bndD (nameD l) fun n => bndD (eatD l ⟨#[111, 110]⟩) fun _ => bndD (nameD l) fun t => retD { Stm.zero with kind := 7, name := n, table := t }) := by
 have e : dropIndexR = bnd (takeR ⟨#[105, 110, 100, 101, 120]⟩) fun _ => bnd nameR fun n => bnd (takeR ⟨#[111, 110]⟩) fun _ => bnd nameR fun t => ret { Stm.zero with kind := 7, name := n, table := t } := by
  unfold dropIndexR indexR
  simp only [bnd_assoc, ret_bnd]
 rw [e]
 exact .bnd (.eat hl (by simp [vocab])) (fun _ => .bnd .name fun _ => .bnd .eat fun _ => .bnd .name fun _ => .ret _) fun _ => .bnd (.name hl) (fun _ => .bnd .eat fun _ => .bnd .name fun _ => .ret _) fun _ => .bnd (.eat hl (by simp [vocab])) (fun _ => .bnd .name fun _ => .ret _) fun _ => .bnd (.name hl) (fun _ => .ret _) fun _ => .ret _
theorem stmtR_eq : stmtR = opt ⟨#[99, 114, 101, 97, 116, 101]⟩ createR (opt ⟨#[100, 114, 111, 112]⟩ dropIndexR (opt ⟨#[97, 108, 116, 101, 114]⟩ alterR (opt ⟨#[105, 110, 115, 101, 114, 116]⟩ insertR (opt ⟨#[117, 112, 100, 97, 116, 101]⟩ updateR (opt ⟨#[100, 101, 108, 101, 116, 101]⟩ deleteR (bnd (takeR ⟨#[115, 101, 108, 101, 99, 116]⟩) fun _ => selectR)))))) := by
 unfold stmtR
 rw [take_opt ⟨#[97, 108, 116, 101, 114]⟩, take_opt ⟨#[115, 101, 108, 101, 99, 116]⟩]
 rw [opt_swap (s := ⟨#[115, 101, 108, 101, 99, 116]⟩) (t := ⟨#[99, 114, 101, 97, 116, 101]⟩) (by simp), opt_swap (s := ⟨#[100, 101, 108, 101, 116, 101]⟩) (t := ⟨#[99, 114, 101, 97, 116, 101]⟩) (by simp), opt_swap (s := ⟨#[117, 112, 100, 97, 116, 101]⟩) (t := ⟨#[99, 114, 101, 97, 116, 101]⟩) (by simp), opt_swap (s := ⟨#[105, 110, 115, 101, 114, 116]⟩) (t := ⟨#[99, 114, 101, 97, 116, 101]⟩) (by simp)]
 rw [opt_swap (s := ⟨#[115, 101, 108, 101, 99, 116]⟩) (t := ⟨#[100, 114, 111, 112]⟩) (by simp), opt_swap (s := ⟨#[100, 101, 108, 101, 116, 101]⟩) (t := ⟨#[100, 114, 111, 112]⟩) (by simp), opt_swap (s := ⟨#[117, 112, 100, 97, 116, 101]⟩) (t := ⟨#[100, 114, 111, 112]⟩) (by simp), opt_swap (s := ⟨#[105, 110, 115, 101, 114, 116]⟩) (t := ⟨#[100, 114, 111, 112]⟩) (by simp)]
 rw [opt_swap (s := ⟨#[115, 101, 108, 101, 99, 116]⟩) (t := ⟨#[97, 108, 116, 101, 114]⟩) (by simp), opt_swap (s := ⟨#[100, 101, 108, 101, 116, 101]⟩) (t := ⟨#[97, 108, 116, 101, 114]⟩) (by simp), opt_swap (s := ⟨#[117, 112, 100, 97, 116, 101]⟩) (t := ⟨#[97, 108, 116, 101, 114]⟩) (by simp), opt_swap (s := ⟨#[105, 110, 115, 101, 114, 116]⟩) (t := ⟨#[97, 108, 116, 101, 114]⟩) (by simp)]

theorem ag_stmt {l : List Tok} (hl : LexL l) : Ag l stmtR (stmtD l) := by
 rw [stmtR_eq]
 have e : stmtD l = optD l ⟨#[99, 114, 101, 97, 116, 101]⟩ (createD l) (optD l ⟨#[100, 114, 111, 112]⟩ (dropD l) (optD l ⟨#[97, 108, 116, 101, 114]⟩ (alterD l) (optD l ⟨#[105, 110, 115, 101, 114, 116]⟩ (insertD l) (optD l ⟨#[117, 112, 100, 97, 116, 101]⟩ (updateD l) (optD l ⟨#[100, 101, 108, 101, 116, 101]⟩ (deleteD l) (selectD l)))))) := rfl
 rw [e, alterD_eq]
 exact .opt hl (by simp [vocab]) de_eat (ag_create hl) (.opt hl (by simp [vocab]) de_eat (ag_drop hl) (.opt hl (by simp [vocab]) de_eat (ag_alter hl) (.opt hl (by simp [vocab]) de_eat (ag_insert hl) (.opt hl (by simp [vocab]) de_eat (ag_update hl) (.opt hl (by simp [vocab]) de_eat (ag_delete hl) (ag_select hl))))))
def closeR : Rd Unit
 | [] => (none, [])
 | x :: q => if x.1 = 0 then (some (), x :: q) else (none, x :: q)
theorem endR_eq : endR = opt ⟨#[59]⟩ closeR closeR := by
 funext q
 unfold endR opt
 cases isT ⟨#[59]⟩ q with
 | false => cases q <;> rfl
 | true =>
  rw [if_pos rfl, if_pos rfl]
  cases q.tail <;> rfl
theorem ag_close {l : List Tok} : Ag l closeR (closeD l) := fun S hb hi => by
 have e : closeR (rem l S.i) = if (tokAt l S.i).k = 0 then (some (), rem l S.i) else (none, rem l S.i) := by
  rw [rem_tok hi]
  rfl
 rw [e]
 unfold closeD
 by_cases hk : (tokAt l S.i).k = 0
 ·rw [if_pos hk, if_neg (fun h => h.2 hk)]
  exact ⟨rfl, hb, Nat.le_refl _, hi, rfl⟩
 ·rw [if_neg hk, if_pos ⟨hb, hk⟩]
  exact fail_ag hb hi ()
theorem opt_bndD {α β : Type} (l : List Tok) (s : ByteArray) (y n : Dr α) (f : α → Dr β) : bndD (optD l s y n) f = optD l s (bndD y f) (bndD n f) := by
 funext S
 unfold bndD optD
 cases isD l s S <;> rfl
theorem ag_end {l : List Tok} (hl : LexL l) : Ag l endR (bndD (semiD l) fun _ => closeD l) := by
 rw [endR_eq]
 have e : (bndD (semiD l) fun _ => closeD l) = optD l ⟨#[59]⟩ (bndD (eatD l ⟨#[59]⟩) fun _ => closeD l) (bndD (retD ()) fun _ => closeD l) := opt_bndD l _ _ _ _
 rw [e]
 exact .opt hl (by simp [vocab]) de_eat ag_close ag_close
theorem ag_parse {l : List Tok} (hl : LexL l) : Ag l parseR (parseD l) := by
 have e : parseD l = bndD (stmtD l) fun x => bndD (bndD (semiD l) fun _ => closeD l) fun _ => retD x := rfl
 rw [e]
 exact .bnd (ag_stmt hl) (fun _ => .bnd (.bnd .semi fun _ => .close) fun _ => .ret _) fun x => .bnd (ag_end hl) (fun _ => .ret _) fun _ => .ret _
theorem parse_same {l : List Tok} (hl : LexL l) (hne : 0 < l.length) : tellD (parseD l ⟨0, false, 0, false⟩) = parseL l := by
 have h := ag_parse hl ⟨0, false, 0, false⟩ rfl hne
 have e0 : rem l 0 = l.map cont := rfl
 rw [e0] at h
 unfold parseL
 rcases e : parseR (l.map cont) with ⟨o, q⟩
 rw [e] at h
 cases o with
 | none =>
  obtain ⟨h1, j, h2, h3, h4⟩ := h
  unfold tellD
  rw [if_pos h1, h4]
  have hq : q.length = l.length - j := by rw [← h3, rem_len]
  have hp : placeAt l q = (tokAt l j).p := by
   unfold placeAt
   rw [hq, show l.length - (l.length - j) = j by omega, tokAt_some h2]
   rfl
  show (none, (tokAt l j).p, (3 : Int)) = (none, placeAt l q, 3)
  rw [hp]
 | some x =>
  obtain ⟨h1, h2, h3, h4, h5⟩ := h
  obtain ⟨b, hb, hl2⟩ := Ly.parse (l := l) ⟨0, false, 0, false⟩ h2
  unfold tellD
  rw [if_neg (by rw [h2]; decide), hl2, hb, h1, Bool.false_or]
def TokP (x : Tok) : Prop := (x.k = 0 ∧ x.t = ⟨#[]⟩) ∨ ∃ (L : List UInt8) (n : Nat) (v : Val), tokL L = some (x.k, n, v) ∧ x.t = str (L.take n)
theorem lexG_tokP : ∀ (N p : Nat) (l : List UInt8) (t : List Tok), (lexG N p l).1 = some t → ∀ x ∈ t, TokP x
 | 0, p, l, t, h => by
  obtain rfl := Option.some.inj h
  intro x hx
  obtain rfl := List.mem_singleton.1 hx
  exact .inl ⟨rfl, rfl⟩
 | N + 1, p, [], t, h => by
  obtain rfl := Option.some.inj h
  intro x hx
  obtain rfl := List.mem_singleton.1 hx
  exact .inl ⟨rfl, rfl⟩
 | N + 1, p, c :: r, t, h => by
  rw [lexG] at h
  split at h
  ·exact lexG_tokP N _ _ _ h
  ·split at h
   ·cases h
   ·rename_i y hy
    unfold pre at h
    rcases e : (lexG N (p + y.2.1) ((c :: r).drop y.2.1)).1 with _ | t2
    ·rw [e] at h; cases h
    ·rw [e] at h
     obtain rfl := Option.some.inj h
     intro x hx
     rcases List.mem_append.1 hx with hx | hx
     ·obtain rfl := List.mem_singleton.1 hx
      exact .inr ⟨c :: r, y.2.1, y.2.2, hy, rfl⟩
     ·exact lexG_tokP N _ _ _ e x hx
def kindOf : List UInt8 → Int
 | [] => 0
 | c :: r =>
  if (c.toNat = 120 ∨ c.toNat = 102) ∧ r.head? = some 39 then 3
  else if lowB c = true then if words.contains (c :: r) = true then 1 else 2
  else if (digB c = true ∨ c.toNat = 45) ∨ c.toNat = 39 then 3 else 4
theorem kindOf_cons (c : UInt8) (r : List UInt8) : kindOf (c :: r) = if (c.toNat = 120 ∨ c.toNat = 102) ∧ r.head? = some 39 then 3
  else if lowB c = true then if words.contains (c :: r) = true then 1 else 2
  else if (digB c = true ∨ c.toNat = 45) ∨ c.toNat = 39 then 3 else 4 := rfl
theorem low_hex {c : UInt8} (h : ¬ lowB c = true) : ¬ (c.toNat = 120 ∨ c.toNat = 102) := fun e => by
 apply h
 unfold lowB
 rcases e with e | e <;> rw [e] <;> rfl
theorem head_take {r : List UInt8} {m : Nat} {b : UInt8} (h : (r.take m).head? = some b) : r.head? = some b := by
 cases r with
 | nil => cases m <;> exact h
 | cons a q =>
  cases m with
  | zero => cases h
  | succ m => exact h
theorem tokL_kind {L : List UInt8} {k : Int} {n : Nat} {v : Val} (h : tokL L = some (k, n, v)) : k = kindOf (L.take n) := by
 have hlen := tokL_len _ _ h
 cases L with
 | nil => cases h
 | cons c r =>
  have h1 : 1 ≤ n := hlen.1
  obtain ⟨m, rfl⟩ : ∃ m, n = m + 1 := ⟨n - 1, by omega⟩
  rw [List.take_succ_cons]
  have hcut : r.head? = some 39 → 1 ≤ m → (r.take m).head? = some 39 := fun e hm => by
   cases r with
   | nil => cases e
   | cons a q =>
    obtain ⟨j, rfl⟩ : ∃ j, m = j + 1 := ⟨m - 1, by omega⟩
    exact e
  rw [kindOf_cons]
  rw [tokL] at h
  split at h
  ·rename_i hc
   unfold bytesT at h
   split at h
   ·rename_i d hd
    split at h
    ·have e := Option.some.inj h
     have ek : (3 : Int) = k := congrArg (fun y => y.1) e
     have em : d.length + 3 = m + 1 := congrArg (fun y => y.2.1) e
     rw [if_pos ⟨.inl hc.1, hcut hc.2 (by omega)⟩]
     exact ek.symm
    ·cases h
   ·cases h
  ·rename_i hx
   split at h
   ·rename_i hc
    unfold floatT at h
    split at h
    ·rename_i d hd
     split at h
     ·have e := Option.some.inj h
      have ek : (3 : Int) = k := congrArg (fun y => y.1) e
      have em : (19 : Nat) = m + 1 := congrArg (fun y => y.2.1) e
      rw [if_pos ⟨.inr hc.1, hcut hc.2 (by omega)⟩]
      exact ek.symm
     ·cases h
    ·cases h
   ·rename_i hf
    split at h
    ·rename_i hl
     have hno : ¬ ((c.toNat = 120 ∨ c.toNat = 102) ∧ (r.take m).head? = some 39) := fun q => q.1.elim (fun a => hx ⟨a, head_take q.2⟩) (fun a => hf ⟨a, head_take q.2⟩)
     rw [if_neg hno, if_pos hl]
     unfold nameT at h
     split at h
     ·have e := Option.some.inj h
      have em : runL letB (c :: r) = m + 1 := congrArg (fun y => y.2.1) e
      have ek : (if words.contains ((c :: r).take (runL letB (c :: r))) = true then 1 else 2 : Int) = k := congrArg (fun y => y.1) e
      rw [em, List.take_succ_cons] at ek
      exact ek.symm
     ·cases h
    ·rename_i hl
     rw [if_neg (fun q => low_hex hl q.1), if_neg hl]
     split at h
     ·rename_i hd
      unfold intT at h
      split at h
      ·split at h
       ·have ek : (3 : Int) = k := congrArg (fun y => y.1) (Option.some.inj h)
        rw [if_pos (.inl hd)]
        exact ek.symm
       ·cases h
      ·cases h
     ·rename_i hd
      split at h
      ·rename_i hq
       unfold textT at h
       split at h
       ·split at h
        ·have ek : (3 : Int) = k := congrArg (fun y => y.1) (Option.some.inj h)
         rw [if_pos (.inr hq)]
         exact ek.symm
        ·cases h
       ·cases h
      ·rename_i hq
       split at h
       ·have ek : (4 : Int) = k := congrArg (fun y => y.1) (Option.some.inj h)
        rw [if_neg (fun z => z.elim hd hq)]
        exact ek.symm
       ·cases h
theorem tokP_kind {x : Tok} (h : TokP x) : x.k = kindOf x.t.data.toList := by
 rcases h with ⟨h1, h2⟩ | ⟨L, n, v, h1, h2⟩
 ·rw [h1, h2]
  rfl
 ·rw [h2]
  exact tokL_kind h1
theorem vocab_kind : (vocab.all fun s => decide (kindOf s.data.toList = 1) || decide (kindOf s.data.toList = 4)) = true := by decide +kernel
theorem lexL_of {N p : Nat} {l : List UInt8} {t : List Tok} (h : (lexG N p l).1 = some t) : LexL t ∧ 0 < t.length := by
 obtain ⟨he, hne, _⟩ := lexG_endK N p l t h
 have hk : ∀ (i : Nat) (x : Tok), t[i]? = some x → x.k = kindOf x.t.data.toList := fun i x hx => tokP_kind (lexG_tokP N p l t h x (List.mem_of_getElem? hx))
 refine ⟨⟨fun i x hx => (he i x hx).1, fun i x hx s hs e => ?_, fun i x hx j y hy hyk e => ?_⟩, List.length_pos_iff.2 hne⟩
 ·have := List.all_eq_true.1 vocab_kind s hs
  rw [hk i x hx, e]
  simpa using this
 ·rw [hk i x hx, e, ← hk j y hy]
  exact hyk

def tokK (l : List UInt8) : Option Tk := match l with
 | [] => none
 | c :: r => if c = 49 ∧ runL letB r = 0 then some (3, 1, ⟨2, 1, 0, ⟨#[]⟩⟩) else tokL (c :: r)
theorem tokK_eq (l : List UInt8) : tokL l = tokK l := by
 cases l with
 | nil => rfl
 | cons c r =>
  unfold tokK
  simp only
  split
  ·rename_i h
   obtain ⟨rfl, h⟩ := h
   rw [tokL, if_neg (fun e => absurd e.1 (by decide)), if_neg (fun e => absurd e.1 (by decide)), if_neg (by decide), if_pos (.inl (by decide)), h, List.take_zero]
   exact intT_plus [49] ⟨by decide, by decide, .inl (by decide)⟩ (by decide)
  ·rfl
def lexK : Nat → Nat → List UInt8 → Said
 | 0, p, _ => (some [⟨0, ⟨#[]⟩, noV, p⟩], 0)
 | _ + 1, p, [] => (some [⟨0, ⟨#[]⟩, noV, p⟩], 0)
 | N + 1, p, c :: r =>
  if blankB c = true then lexK N (p + 1) r
  else match tokK (c :: r) with
   | none => (none, p)
   | some x => pre [⟨x.1, str ((c :: r).take x.2.1), x.2.2, p⟩] (lexK N (p + x.2.1) ((c :: r).drop x.2.1))
theorem lexK_eq : ∀ (N p : Nat) (l : List UInt8), lexG N p l = lexK N p l
 | 0, _, _ => rfl
 | _ + 1, _, [] => rfl
 | N + 1, p, c :: r => by
  unfold lexG lexK
  rw [lexK_eq N (p + 1) r, tokK_eq]
  cases tokK (c :: r) with
  | none => rfl
  | some x =>
   simp only
   rw [lexK_eq N]
def parseK (l : List UInt8) : Option Stm × Nat × Int :=
 if 400 < l.length then (none, 0, 2) else match lexK l.length 0 l with
  | (none, p) => (none, p, 3)
  | (some t, _) => parseL t
theorem parseK_eq (l : List UInt8) : parseG (str l) = parseK l := by
 unfold parseG parseK
 rw [← lexK_eq]
 rfl
end Go.Proofs.YtiajlhjjmlakmaaGreatDoor.Num
