/-
  The document's reader tells what the program's tells: token by token (17.1). No program is named here.
-/
import Derived.Test.YtiajlhjjmlakmaaGreatDoorSqVb
import Derived.Test.YtiajlhjjmlakmaaGreatDoorSqH
namespace Go.Proofs.YtiajlhjjmlakmaaGreatDoor.Num
set_option linter.unusedSimpArgs false
set_option linter.unusedVariables false
set_option linter.unusedVariables false
set_option maxRecDepth 100000

def vocab : List ByteArray := [⟨#[110, 117, 108, 108]⟩, ⟨#[116, 114, 117, 101]⟩, ⟨#[102, 97, 108, 115, 101]⟩, ⟨#[40]⟩, ⟨#[41]⟩, ⟨#[44]⟩, ⟨#[61]⟩, ⟨#[60]⟩, ⟨#[62]⟩, ⟨#[105, 115]⟩, ⟨#[110, 111, 116]⟩, ⟨#[119, 104, 101, 114, 101]⟩, ⟨#[97, 110, 100]⟩, ⟨#[43]⟩, ⟨#[98, 111, 111, 108]⟩, ⟨#[105, 110, 116]⟩, ⟨#[102, 108, 111, 97, 116]⟩, ⟨#[98, 121, 116, 101, 115]⟩, ⟨#[116, 101, 120, 116]⟩, ⟨#[116, 97, 98, 108, 101]⟩, ⟨#[112, 114, 105, 109, 97, 114, 121]⟩, ⟨#[107, 101, 121]⟩, ⟨#[105, 110, 100, 101, 120]⟩, ⟨#[111, 110]⟩, ⟨#[99, 114, 101, 97, 116, 101]⟩, ⟨#[117, 110, 105, 113, 117, 101]⟩, ⟨#[97, 108, 116, 101, 114]⟩, ⟨#[97, 100, 100]⟩, ⟨#[99, 111, 108, 117, 109, 110]⟩, ⟨#[100, 101, 102, 97, 117, 108, 116]⟩, ⟨#[100, 114, 111, 112]⟩, ⟨#[115, 101, 116]⟩, ⟨#[105, 110, 115, 101, 114, 116]⟩, ⟨#[105, 110, 116, 111]⟩, ⟨#[118, 97, 108, 117, 101, 115]⟩, ⟨#[117, 112, 100, 97, 116, 101]⟩, ⟨#[100, 101, 108, 101, 116, 101]⟩, ⟨#[102, 114, 111, 109]⟩, ⟨#[115, 101, 108, 101, 99, 116]⟩, ⟨#[42]⟩, ⟨#[59]⟩]
/-- What holds of a text's tokens. -/
structure LexL (l : List Tok) : Prop where
  fin : ∀ (i : Nat) (x : Tok), l[i]? = some x → i + 1 < l.length ∨ (x.k = 0 ∧ x.t = ⟨#[]⟩)
  voc : ∀ (i : Nat) (x : Tok), l[i]? = some x → ∀ s ∈ vocab, x.t = s → x.k = 1 ∨ x.k = 4
  nam : ∀ (i : Nat) (x : Tok), l[i]? = some x → ∀ (j : Nat) (y : Tok), l[j]? = some y → y.k = 2 → x.t = y.t → x.k = 2
theorem tokAt_some {l : List Tok} {i : Nat} (h : i < l.length) : l[i]? = some (tokAt l i) := by
  unfold tokAt
  rw [List.getElem?_eq_getElem h]
  rfl
theorem rem_tok {l : List Tok} {i : Nat} (h : i < l.length) : rem l i = cont (tokAt l i) :: rem l (i + 1) := rem_at (tokAt_some h)
theorem isD_isT {l : List Tok} (hl : LexL l) {s : ByteArray} (hs : s ∈ vocab) {S : DS} (hb : S.bad = false) (hi : S.i < l.length) : isD l s S = isT s (rem l S.i) := by
  rw [rem_tok hi, isT_iff]
  unfold isD
  rw [hb]
  by_cases ht : (tokAt l S.i).t = s
  · have := hl.voc _ _ (tokAt_some hi) s hs ht
    rw [show (cont (tokAt l S.i)).2.1 = (tokAt l S.i).t from rfl, ht]
    rcases this with h | h <;> simp [h]
  · rw [show (cont (tokAt l S.i)).2.1 = (tokAt l S.i).t from rfl]
    simp [ht]
def AgE {α : Type} (l : List Tok) (S : DS) (o : Option α × List TkC) (r : α × DS) : Prop := match o with
  | (some a, q) => r.1 = a ∧ r.2.bad = false ∧ S.i ≤ r.2.i ∧ r.2.i < l.length ∧ rem l r.2.i = q
  | (none, q) => r.2.bad = true ∧ ∃ j, j < l.length ∧ rem l j = q ∧ r.2.p = (tokAt l j).p
def Ag {α : Type} (l : List Tok) (rd : Rd α) (d : Dr α) : Prop := ∀ S, S.bad = false → S.i < l.length → AgE l S (rd (rem l S.i)) (d S)
theorem Ag.ret {α : Type} {l : List Tok} (x : α) : Ag l (ret x) (retD x) := fun S hb hi => ⟨rfl, hb, Nat.le_refl _, hi, rfl⟩
theorem Ag.bnd {α β : Type} {l : List Tok} {a : Rd α} {da : Dr α} {f : α → Rd β} {df : α → Dr β} (ha : Ag l a da) (hs : ∀ x, St (df x)) (hf : ∀ x, Ag l (f x) (df x)) : Ag l (bnd a f) (bndD da df) := fun S hb hi => by
  have h := ha S hb hi
  show AgE l S (match a (rem l S.i) with | (some x, q) => f x q | (none, q) => (none, q)) (bndD da df S)
  generalize a (rem l S.i) = z at h ⊢
  obtain ⟨o, q⟩ := z
  cases o with
  | none =>
    obtain ⟨h1, j, h2, h3, h4⟩ := h
    obtain ⟨h5, h6⟩ := hs (da S).1 (da S).2 h1
    exact ⟨h5, j, h2, h3, h6.trans h4⟩
  | some x =>
    obtain ⟨h1, h2, h3, h4, h5⟩ := h
    have h6 := hf x (da S).2 h2 h4
    rw [h5] at h6
    have e3 : bndD da df S = df x (da S).2 := by
      show df (da S).1 (da S).2 = _
      rw [h1]
    rw [e3]
    show AgE l S (f x q) _
    generalize f x q = y at h6 ⊢
    obtain ⟨o2, q2⟩ := y
    cases o2 with
    | none => exact h6
    | some y => exact ⟨h6.1, h6.2.1, Nat.le_trans h3 h6.2.2.1, h6.2.2.2.1, h6.2.2.2.2⟩
theorem fail_ag {α : Type} {l : List Tok} {S : DS} (hb : S.bad = false) (hi : S.i < l.length) (x : α) : AgE l S ((none, rem l S.i) : Option α × List TkC) (x, S.fail l) := by
  have e : S.fail l = { S with bad := true, p := (tokAt l S.i).p } := if_neg (by simp [hb])
  rw [e]
  exact ⟨rfl, S.i, hi, rfl, rfl⟩
theorem inc_lt {l : List Tok} (hl : LexL l) {S : DS} (hi : S.i < l.length) (hk : (tokAt l S.i).k ≠ 0) : S.i + 1 < l.length := by
  rcases hl.fin _ _ (tokAt_some hi) with h | h
  · exact h
  · exact absurd h.1 hk
theorem isT_k {l : List Tok} (hl : LexL l) {s : ByteArray} (hs : s ∈ vocab) {S : DS} (hi : S.i < l.length) (h : isT s (rem l S.i) = true) : (tokAt l S.i).k ≠ 0 := by
  rw [rem_tok hi, isT_iff] at h
  rcases hl.voc _ _ (tokAt_some hi) s hs (of_decide_eq_true h) with h | h <;> rw [h] <;> decide
theorem Ag.eat {l : List Tok} (hl : LexL l) {s : ByteArray} (hs : s ∈ vocab) : Ag l (takeR s) (eatD l s) := fun S hb hi => by
  unfold takeR eatD
  rw [isD_isT hl hs hb hi]
  cases h : isT s (rem l S.i) with
  | true =>
    rw [if_pos rfl, if_pos rfl]
    refine ⟨rfl, hb, Nat.le_succ _, inc_lt hl hi (isT_k hl hs hi h), ?_⟩
    rw [rem_tok hi]
    rfl
  | false =>
    rw [if_neg (by decide), if_neg (by decide)]
    exact fail_ag hb hi ()
theorem agE_le {α : Type} {l : List Tok} {S S' : DS} {o : Option α × List TkC} {r : α × DS} (h : AgE l S' o r) (hi : S.i ≤ S'.i) : AgE l S o r := by
  obtain ⟨o, q⟩ := o
  cases o with
  | none => exact h
  | some a => exact ⟨h.1, h.2.1, Nat.le_trans hi h.2.2.1, h.2.2.2.1, h.2.2.2.2⟩
theorem Ag.opt {α : Type} {l : List Tok} (hl : LexL l) {s : ByteArray} (hs : s ∈ vocab) {y n : Rd α} {dy dn : Dr α} {de : Dr Unit} (he : ∀ S, isD l s S = true → de S = ((), S.inc)) (hy : Ag l y dy) (hn : Ag l n dn) : Ag l (opt s y n) (optD l s (bndD de fun _ => dy) dn) := fun S hb hi => by
  unfold Num.opt optD
  rw [isD_isT hl hs hb hi]
  cases h : isT s (rem l S.i) with
  | true =>
    rw [if_pos rfl, if_pos rfl]
    have hd : isD l s S = true := by rw [isD_isT hl hs hb hi]; exact h
    have e : (bndD de fun _ => dy) S = dy S.inc := by
      show dy (de S).2 = _
      rw [he S hd]
    rw [e]
    have h2 := hy S.inc hb (inc_lt hl hi (isT_k hl hs hi h))
    have e2 : rem l S.inc.i = (rem l S.i).tail := by
      rw [rem_tok hi]
      rfl
    rw [e2] at h2
    exact agE_le h2 (Nat.le_succ _)
  | false =>
    rw [if_neg (by decide), if_neg (by decide)]
    exact hn S hb hi
theorem de_eat {l : List Tok} {s : ByteArray} : ∀ S, isD l s S = true → eatD l s S = ((), S.inc) := fun S h => if_pos h
theorem de_inc {l : List Tok} {s : ByteArray} : ∀ S, isD l s S = true → incD S = ((), S.inc) := fun S h => rfl
theorem kindR_tok {l : List Tok} {i : Nat} (hi : i < l.length) (k : Int) : kindR k (rem l i) = if (tokAt l i).k = k then (some (cont (tokAt l i)), rem l (i + 1)) else (none, rem l i) := by
  rw [rem_tok hi]
  rfl
theorem Ag.name {l : List Tok} (hl : LexL l) : Ag l nameR (nameD l) := fun S hb hi => by
  unfold nameR Num.bnd nameD
  rw [kindR_tok hi]
  by_cases hk : (tokAt l S.i).k = 2
  · rw [if_pos hk, if_neg (by simp [hb, hk])]
    exact ⟨rfl, hb, Nat.le_succ _, inc_lt hl hi (by rw [hk]; decide), rfl⟩
  · rw [if_neg hk, if_pos (Or.inr hk)]
    exact fail_ag hb hi _
theorem Ag.value {l : List Tok} (hl : LexL l) : Ag l valueR (valueD l) := by
  have e : valueD l = optD l ⟨#[110, 117, 108, 108]⟩ (bndD incD fun _ => retD ⟨0, 0, 0, ⟨#[]⟩⟩) (optD l ⟨#[116, 114, 117, 101]⟩ (bndD incD fun _ => retD ⟨1, 1, 0, ⟨#[]⟩⟩) (optD l ⟨#[102, 97, 108, 115, 101]⟩ (bndD incD fun _ => retD ⟨1, 0, 0, ⟨#[]⟩⟩) fun S => if S.bad = true ∨ (tokAt l S.i).k ≠ 3 then (⟨0, 0, 0, ⟨#[]⟩⟩, S.fail l) else ((tokAt l S.i).v, S.inc))) := rfl
  rw [e]
  refine .opt hl (by simp [vocab]) de_inc (.ret _) (.opt hl (by simp [vocab]) de_inc (.ret _) (.opt hl (by simp [vocab]) de_inc (.ret _) fun S hb hi => ?_))
  unfold Num.bnd
  rw [kindR_tok hi]
  by_cases hk : (tokAt l S.i).k = 3
  · rw [if_pos hk, if_neg (by simp [hb, hk])]
    exact ⟨rfl, hb, Nat.le_succ _, inc_lt hl hi (by rw [hk]; decide), rfl⟩
  · rw [if_neg hk, if_pos (Or.inr hk)]
    exact fail_ag hb hi _
theorem Ag.more {α : Type} {l : List Tok} (hl : LexL l) {s : ByteArray} (hs : s ∈ vocab) {rd : Rd α} {d : Dr α} (hd : Ag l rd d) (hst : St d) : ∀ (n m : Nat) (acc : List α) (S : DS), S.bad = false → S.i < l.length → l.length ≤ S.i + n → l.length ≤ S.i + m → AgE l S (listN s rd n acc (rem l S.i)) (moreD l s d m acc S)
  | 0, m, acc, S, hb, hi, hn, hm => by omega
  | n + 1, 0, acc, S, hb, hi, hn, hm => by omega
  | n + 1, m + 1, acc, S, hb, hi, hn, hm => by
    show AgE l S (Num.opt s (Num.bnd rd fun a => listN s rd n (acc ++ [a])) (Num.ret acc) (rem l S.i)) (optD l s (bndD (eatD l s) fun _ => bndD d fun a => moreD l s d m (acc ++ [a])) (retD acc) S)
    unfold Num.opt optD
    rw [isD_isT hl hs hb hi]
    cases h : isT s (rem l S.i) with
    | false =>
      rw [if_neg (by decide), if_neg (by decide)]
      exact ⟨rfl, hb, Nat.le_refl _, hi, rfl⟩
    | true =>
      rw [if_pos rfl, if_pos rfl]
      have hdt : isD l s S = true := by rw [isD_isT hl hs hb hi]; exact h
      have hlt := inc_lt hl hi (isT_k hl hs hi h)
      have e2 : rem l S.inc.i = (rem l S.i).tail := by
        rw [rem_tok hi]
        rfl
      have e : (bndD (eatD l s) fun _ => bndD d fun a => moreD l s d m (acc ++ [a])) S = moreD l s d m (acc ++ [(d S.inc).1]) (d S.inc).2 := by
        show (bndD d fun a => moreD l s d m (acc ++ [a])) (eatD l s S).2 = _
        rw [de_eat S hdt]
        rfl
      rw [e, ← e2]
      have h1 := hd S.inc hb hlt
      unfold Num.bnd
      rcases e3 : rd (rem l S.inc.i) with ⟨o, q⟩
      rw [e3] at h1
      cases o with
      | none =>
        obtain ⟨h1, j, h2, h3, h4⟩ := h1
        obtain ⟨h5, h6⟩ := (St.more (l := l) (s := s) (d := d) m (acc ++ [(d S.inc).1])) (d S.inc).2 h1
        exact ⟨h5, j, h2, h3, h6.trans h4⟩
      | some a =>
        obtain ⟨h1, h2, h3, h4, h5⟩ := h1
        have hle : S.i + 1 ≤ (d S.inc).2.i := h3
        have h6 := Ag.more hl hs hd hst n m (acc ++ [a]) (d S.inc).2 h2 h4 (by omega) (by omega)
        rw [h5] at h6
        rw [h1]
        exact agE_le h6 (by omega)
theorem Ag.list {α : Type} {l : List Tok} (hl : LexL l) {s : ByteArray} (hs : s ∈ vocab) {rd : Rd α} {d : Dr α} (hd : Ag l rd d) (hst : St d) : Ag l (listR s rd) (bndD d fun a => moreD l s d l.length [a]) := fun S hb hi => by
  have h := hd S hb hi
  unfold listR Num.bnd
  rcases e : rd (rem l S.i) with ⟨o, q⟩
  rw [e] at h
  cases o with
  | none =>
    obtain ⟨h1, j, h2, h3, h4⟩ := h
    obtain ⟨h5, h6⟩ := (St.more (l := l) (s := s) (d := d) l.length [(d S).1]) (d S).2 h1
    exact ⟨h5, j, h2, h3, h6.trans h4⟩
  | some a =>
    obtain ⟨h1, h2, h3, h4, h5⟩ := h
    have h6 := Ag.more hl hs hd hst (rem l S.i).length l.length [a] (d S).2 h2 h4 (by rw [rem_len]; omega) (by omega)
    rw [h5] at h6
    have e2 : (bndD d fun a => moreD l s d l.length [a]) S = moreD l s d l.length [(d S).1] (d S).2 := rfl
    rw [e2, h1]
    exact agE_le h6 h3
local macro "vc" : tactic => `(tactic| simp [vocab])
theorem Ag.row {α : Type} {l : List Tok} (hl : LexL l) {rd : Rd α} {d : Dr α} (hd : Ag l rd d) (hst : St d) : Ag l (rowR rd) (bndD (eatD l ⟨#[40]⟩) fun _ => bndD d fun a => bndD (moreD l ⟨#[44]⟩ d l.length [a]) fun ns => bndD (eatD l ⟨#[41]⟩) fun _ => retD ns) := by
  have e : (bndD (eatD l ⟨#[40]⟩) fun _ => bndD d fun a => bndD (moreD l ⟨#[44]⟩ d l.length [a]) fun ns => bndD (eatD l ⟨#[41]⟩) fun _ => retD ns) = (bndD (eatD l ⟨#[40]⟩) fun _ => bndD (bndD d fun a => moreD l ⟨#[44]⟩ d l.length [a]) fun ns => bndD (eatD l ⟨#[41]⟩) fun _ => retD ns) := rfl
  rw [e]
  exact .bnd (.eat hl (by vc)) (fun _ => .bnd (.bnd hst fun _ => .more _ _) fun _ => .bnd .eat fun _ => .ret _) fun _ => .bnd (.list hl (by vc) hd hst) (fun _ => .bnd .eat fun _ => .ret _) fun ns => .bnd (.eat hl (by vc)) (fun _ => .ret _) fun _ => .ret _
/-- To mark that a list is too long changes nothing else. -/
theorem Ag.many {α : Type} {l : List Tok} {rd : Rd α} {d : Dr α} {b : α → Bool} (h : Ag l rd d) : Ag l rd (bndD d fun x => bndD (fun S => ((), S.many (b x))) fun _ => retD x) := fun S hb hi => by
  have h1 := h S hb hi
  have e : (bndD d fun x => bndD (fun S => ((), S.many (b x))) fun _ => retD x) S = ((d S).1, (d S).2.many (b (d S).1)) := rfl
  obtain ⟨m1, m2, m3, _⟩ := many_bad (d S).2 (b (d S).1)
  rw [e]
  rcases e2 : rd (rem l S.i) with ⟨o, q⟩
  rw [e2] at h1
  cases o with
  | none =>
    obtain ⟨h1, j, h2, h3, h4⟩ := h1
    exact ⟨m1.trans h1, j, h2, h3, m2.trans h4⟩
  | some a =>
    obtain ⟨h1, h2, h3, h4, h5⟩ := h1
    refine ⟨h1, m1.trans h2, ?_, ?_, ?_⟩
    · show _ ≤ ((d S).2.many (b (d S).1)).i
      rw [m3]; exact h3
    · show ((d S).2.many (b (d S).1)).i < _
      rw [m3]; exact h4
    · show rem l ((d S).2.many (b (d S).1)).i = q
      rw [m3]; exact h5
theorem Ag.names {l : List Tok} (hl : LexL l) : Ag l (rowR nameR) (namesD l) := by
  have e : namesD l = bndD (bndD (eatD l ⟨#[40]⟩) fun _ => bndD (nameD l) fun a => bndD (moreD l ⟨#[44]⟩ (nameD l) l.length [a]) fun ns => bndD (eatD l ⟨#[41]⟩) fun _ => retD ns) fun x => bndD (fun S => ((), S.many (decide (8 < x.length)))) fun _ => retD x := rfl
  rw [e]
  exact .many (b := fun ns : List ByteArray => decide (8 < ns.length)) (.row hl (.name hl) .name)
theorem Ag.le {α : Type} {l : List Tok} {rd rd2 : Rd α} {d : Dr α} (h : Ag l rd d) (e : rd2 = rd) : Ag l rd2 d := by rw [e]; exact h
theorem Ag.kind {l : List Tok} (hl : LexL l) : Ag l typeR (kindD l) :=
  .opt hl (by vc) de_inc (.ret _) (.opt hl (by vc) de_inc (.ret _) (.opt hl (by vc) de_inc (.ret _) (.opt hl (by vc) de_inc (.ret _) (fun S hb hi => by
    have h : Ag l (Num.opt ⟨#[116, 101, 120, 116]⟩ (Num.ret (5 : Int)) fun q => (none, q)) (optD l ⟨#[116, 101, 120, 116]⟩ (bndD incD fun _ => retD 5) (bndD (failD l) fun _ => retD 0)) := .opt hl (by vc) de_inc (.ret _) fun S hb hi => fail_ag hb hi 0
    have h2 := h S hb hi
    have e : (Num.bnd (takeR ⟨#[116, 101, 120, 116]⟩) fun _ => Num.ret (5 : Int)) (rem l S.i) = (Num.opt ⟨#[116, 101, 120, 116]⟩ (Num.ret (5 : Int)) fun q => (none, q)) (rem l S.i) := by
      unfold Num.bnd takeR Num.opt
      cases isT ⟨#[116, 101, 120, 116]⟩ (rem l S.i) <;> rfl
    rw [e]
    exact h2))))
theorem Ag.column {l : List Tok} (hl : LexL l) : Ag l columnR (columnD l) := .bnd (.name hl) (fun _ => .bnd .kind fun _ => .ret _) fun _ => .bnd (.kind hl) (fun _ => .ret _) fun _ => .ret _
/-- Readers that tell the same of every row of tokens. -/
theorem takes2 (a b : ByteArray) : takesR [a, b] = Num.bnd (takeR a) fun _ => Num.bnd (takeR b) fun _ => Num.ret () := rfl
theorem bnd_assoc {α β γ : Type} (a : Rd α) (f : α → Rd β) (g : β → Rd γ) : Num.bnd (Num.bnd a f) g = Num.bnd a fun x => Num.bnd (f x) g := by
  funext q
  unfold Num.bnd
  rcases a q with ⟨o, r⟩
  cases o <;> rfl
theorem ret_bnd {α β : Type} (x : α) (f : α → Rd β) : Num.bnd (Num.ret x) f = f x := rfl
theorem bnd_opt {α β : Type} (s : ByteArray) (y n : Rd α) (f : α → Rd β) : Num.bnd (Num.opt s y n) f = Num.opt s (Num.bnd y f) (Num.bnd n f) := by
  funext q
  unfold Num.bnd Num.opt
  cases isT s q <;> rfl
/-- The word 'is' is none of the signs: which is asked first is one. -/
theorem opt_swap {α : Type} {s t : ByteArray} (h : s ≠ t) (y n z : Rd α) : Num.opt s y (Num.opt t n z) = Num.opt t n (Num.opt s y z) := by
  funext q
  unfold Num.opt
  cases hs : isT s q with
  | false => simp
  | true =>
    have ht : isT t q = false := by
      cases q with
      | nil => rfl
      | cons x q =>
        rw [isT_iff] at hs ⊢
        exact decide_eq_false fun e => h ((of_decide_eq_true hs).symm.trans e)
    rw [ht, if_pos rfl, if_neg (by decide), if_pos rfl]
theorem take_opt {α : Type} (s : ByteArray) (f : Unit → Rd α) : Num.bnd (takeR s) f = Num.opt s (f ()) fun q => (none, q) := by
  funext q
  unfold Num.bnd takeR Num.opt
  cases isT s q <;> rfl
theorem condR_eq : condR = Num.bnd nameR fun c => Num.opt ⟨#[61]⟩ (Num.bnd valueR fun v => Num.ret ⟨c, 1, v⟩) (Num.opt ⟨#[60]⟩ (Num.bnd valueR fun v => Num.ret ⟨c, 2, v⟩) (Num.opt ⟨#[62]⟩ (Num.bnd valueR fun v => Num.ret ⟨c, 3, v⟩)
    (Num.bnd (takeR ⟨#[105, 115]⟩) fun _ => Num.opt ⟨#[110, 111, 116]⟩ (Num.bnd (takeR ⟨#[110, 117, 108, 108]⟩) fun _ => Num.ret ⟨c, 5, ⟨0, 0, 0, ⟨#[]⟩⟩⟩) (Num.bnd (takeR ⟨#[110, 117, 108, 108]⟩) fun _ => Num.ret ⟨c, 4, ⟨0, 0, 0, ⟨#[]⟩⟩⟩)))) := by
  unfold condR
  congr 1
  funext c
  have hs : ∀ F : Int → Rd Cnd, Num.bnd signR F = Num.opt ⟨#[61]⟩ (F 1) (Num.opt ⟨#[60]⟩ (F 2) (Num.opt ⟨#[62]⟩ (F 3) fun q => (none, q))) := fun F => by
    unfold signR
    rw [bnd_opt, bnd_opt, take_opt, bnd_opt]
    rfl
  rw [hs, opt_swap (s := ⟨#[105, 115]⟩) (t := ⟨#[61]⟩) (by simp), opt_swap (s := ⟨#[105, 115]⟩) (t := ⟨#[60]⟩) (by simp), opt_swap (s := ⟨#[105, 115]⟩) (t := ⟨#[62]⟩) (by simp), take_opt ⟨#[105, 115]⟩]
theorem Ag.cond {l : List Tok} (hl : LexL l) : Ag l condR (condD l) := by
  rw [condR_eq]
  exact .bnd (.name hl) (fun _ => .opt (.opt (.opt (.bnd .eat fun _ => .opt (.bnd .eat fun _ => .ret _))))) fun c =>
    .opt hl (by vc) de_inc (.bnd (.value hl) (fun _ => .ret _) fun _ => .ret _) (.opt hl (by vc) de_inc (.bnd (.value hl) (fun _ => .ret _) fun _ => .ret _) (.opt hl (by vc) de_inc (.bnd (.value hl) (fun _ => .ret _) fun _ => .ret _)
    (.bnd (.eat hl (by vc)) (fun _ => .opt (.bnd .eat fun _ => .ret _)) fun _ => .opt hl (by vc) de_eat (.bnd (.eat hl (by vc)) (fun _ => .ret _) fun _ => .ret _) (.bnd (.eat hl (by vc)) (fun _ => .ret _) fun _ => .ret _))))
theorem Ag.wher {l : List Tok} (hl : LexL l) : Ag l whereR (whereD l) := by
  have e : whereD l = optD l ⟨#[119, 104, 101, 114, 101]⟩ (bndD (eatD l ⟨#[119, 104, 101, 114, 101]⟩) fun _ => bndD (bndD (condD l) fun a => moreD l ⟨#[97, 110, 100]⟩ (condD l) l.length [a]) fun cs => bndD (fun S => ((), S.many (decide (4 < cs.length)))) fun _ => retD cs) (retD []) := rfl
  rw [e]
  exact .opt hl (by vc) de_eat (.many (b := fun cs : List Cnd => decide (4 < cs.length)) (.list hl (by vc) (.cond hl) .cond)) (.ret _)
theorem Ag.bndP {α β : Type} {l : List Tok} {P : α → Prop} {a : Rd α} {da : Dr α} {f : α → Rd β} {df : α → Dr β} (ha : Ag l a da) (hp : ∀ i x q, i < l.length → a (rem l i) = (some x, q) → P x) (hs : ∀ x, St (df x)) (hf : ∀ x, P x → Ag l (f x) (df x)) : Ag l (Num.bnd a f) (bndD da df) := fun S hb hi => by
  rcases e : a (rem l S.i) with ⟨o, q⟩
  have h := ha S hb hi
  rw [e] at h
  cases o with
  | none =>
    have e2 : Num.bnd a f (rem l S.i) = (none, q) := by unfold Num.bnd; rw [e]
    rw [e2]
    obtain ⟨h1, j, h2, h3, h4⟩ := h
    obtain ⟨h5, h6⟩ := hs (da S).1 (da S).2 h1
    exact ⟨h5, j, h2, h3, h6.trans h4⟩
  | some x =>
    have e2 : Num.bnd a f (rem l S.i) = f x q := by unfold Num.bnd; rw [e]
    rw [e2]
    obtain ⟨h1, h2, h3, h4, h5⟩ := h
    have h6 := hf x (hp S.i x q hi e) (da S).2 h2 h4
    rw [h5] at h6
    have e3 : bndD da df S = df x (da S).2 := by
      show df (da S).1 (da S).2 = _
      rw [h1]
    rw [e3]
    exact agE_le h6 h3
theorem nameR_is {l : List Tok} {i : Nat} {c : ByteArray} {q : List TkC} (hi : i < l.length) (h : nameR (rem l i) = (some c, q)) : ∃ (j : Nat) (y : Tok), l[j]? = some y ∧ y.k = 2 ∧ y.t = c := by
  unfold nameR Num.bnd at h
  rw [kindR_tok hi] at h
  by_cases hk : (tokAt l i).k = 2
  · rw [if_pos hk] at h
    exact ⟨i, tokAt l i, tokAt_some hi, hk, Option.some.inj (congrArg Prod.fst h)⟩
  · rw [if_neg hk] at h
    cases h
/-- What a column gets, behind its sign. -/
def restD (l : List Tok) (c : ByteArray) : Dr Sett := fun S =>
  if S.bad = false ∧ (tokAt l S.i).k = 2 then (bndD (if (tokAt l S.i).t ≠ c then failD l else incD) fun _ => bndD (eatD l ⟨#[43]⟩) fun _ => bndD (valueD l) fun v => retD ⟨c, true, v⟩) S
  else (bndD (valueD l) fun v => retD ⟨c, false, v⟩) S
theorem setD1_eq (l : List Tok) : setD1 l = bndD (nameD l) fun c => bndD (eatD l ⟨#[61]⟩) fun _ => restD l c := rfl
theorem St.setR {l : List Tok} {c : ByteArray} : St (restD l c) := fun S h => by
  have e : restD l c S = (bndD (valueD l) fun v => retD ⟨c, false, v⟩) S := if_neg (by simp [h])
  rw [e]
  exact (St.bnd St.value fun _ => St.ret _) S h
theorem Ag.set {l : List Tok} (hl : LexL l) : Ag l setR (setD1 l) := by
  rw [setD1_eq]
  exact .bndP (P := fun c => ∃ (j : Nat) (y : Tok), l[j]? = some y ∧ y.k = 2 ∧ y.t = c) (.name hl) (fun i x q hi h => nameR_is hi h) (fun c => .bnd .eat fun _ => .setR) fun c hc => .bnd (.eat hl (by vc)) (fun _ => .setR) fun _ => fun S hb hi => by
    obtain ⟨j, y, hj, hy, rfl⟩ := hc
    have hnv : Ag l (Num.bnd valueR fun v => Num.ret (⟨y.t, false, v⟩ : Sett)) (bndD (valueD l) fun v => retD ⟨y.t, false, v⟩) := .bnd (.value hl) (fun _ => .ret _) fun _ => .ret _
    have hyv : Ag l (Num.bnd (takeR ⟨#[43]⟩) fun _ => Num.bnd valueR fun v => Num.ret (⟨y.t, true, v⟩ : Sett)) (bndD (eatD l ⟨#[43]⟩) fun _ => bndD (valueD l) fun v => retD ⟨y.t, true, v⟩) := .bnd (.eat hl (by vc)) (fun _ => .bnd .value fun _ => .ret _) fun _ => .bnd (.value hl) (fun _ => .ret _) fun _ => .ret _
    have hT : isT y.t (rem l S.i) = decide ((tokAt l S.i).t = y.t) := by rw [rem_tok hi, isT_iff]; rfl
    have eT : ∀ (Y N : Rd Sett), Num.opt y.t Y N (rem l S.i) = if decide ((tokAt l S.i).t = y.t) = true then Y (rem l S.i).tail else N (rem l S.i) := fun Y N => by unfold Num.opt; rw [hT]
    rw [eT]
    by_cases hk : (tokAt l S.i).k = 2
    · have eD : restD l y.t S = (bndD (if (tokAt l S.i).t ≠ y.t then failD l else incD) fun _ => bndD (eatD l ⟨#[43]⟩) fun _ => bndD (valueD l) fun v => retD ⟨y.t, true, v⟩) S := if_pos ⟨hb, hk⟩
      rw [eD]
      have hlt := inc_lt hl hi (by rw [hk]; decide)
      by_cases ht : (tokAt l S.i).t = y.t
      · rw [decide_eq_true ht, if_pos rfl, if_neg (show ¬ (tokAt l S.i).t ≠ y.t from fun h => h ht)]
        have h2 := hyv S.inc hb hlt
        have e2 : rem l S.inc.i = (rem l S.i).tail := by rw [rem_tok hi]; rfl
        rw [e2] at h2
        exact agE_le h2 (Nat.le_succ _)
      · rw [decide_eq_false ht, if_neg (by decide), if_pos (show (tokAt l S.i).t ≠ y.t from ht)]
        have hno : ∀ s ∈ vocab, isT s (rem l S.i) = false := fun s hs => by
          rw [rem_tok hi, isT_iff]
          refine decide_eq_false fun e => ?_
          rcases hl.voc _ _ (tokAt_some hi) s hs e with h | h <;> omega
        have hv : valueR (rem l S.i) = (none, rem l S.i) := by
          unfold valueR Num.opt
          rw [hno _ (by vc), hno _ (by vc), hno _ (by vc), if_neg (by decide), if_neg (by decide), if_neg (by decide)]
          unfold Num.bnd
          rw [kindR_tok hi, if_neg (by omega)]
        have e3 : (Num.bnd valueR fun v => Num.ret (⟨y.t, false, v⟩ : Sett)) (rem l S.i) = (none, rem l S.i) := by unfold Num.bnd; rw [hv]
        rw [e3]
        obtain ⟨h1, j2, h2, h3, h4⟩ := fail_ag (α := Unit) hb hi ()
        have hst : St (bndD (eatD l ⟨#[43]⟩) fun _ => bndD (valueD l) fun v => retD (⟨y.t, true, v⟩ : Sett)) := .bnd .eat fun _ => .bnd .value fun _ => .ret _
        obtain ⟨h5, h6⟩ := hst (S.fail l) h1
        exact ⟨h5, j2, h2, h3, h6.trans h4⟩
    · have eD : restD l y.t S = (bndD (valueD l) fun v => retD ⟨y.t, false, v⟩) S := if_neg (fun h => hk h.2)
      rw [eD]
      have ht : ¬ (tokAt l S.i).t = y.t := fun e => hk (hl.nam _ _ (tokAt_some hi) j y hj hy e)
      rw [decide_eq_false ht, if_neg (by decide)]
      exact hnv S hb hi
theorem Ag.sets {l : List Tok} (hl : LexL l) : Ag l (listR ⟨#[44]⟩ setR) (setsD l) := by
  have e : setsD l = bndD (bndD (setD1 l) fun a => moreD l ⟨#[44]⟩ (setD1 l) l.length [a]) fun x => bndD (fun S => ((), S.many (decide (8 < x.length)))) fun _ => retD x := rfl
  rw [e]
  exact .many (b := fun ss : List Sett => decide (8 < ss.length)) (.list hl (by vc) (.set hl) .set)
end Go.Proofs.YtiajlhjjmlakmaaGreatDoor.Num
