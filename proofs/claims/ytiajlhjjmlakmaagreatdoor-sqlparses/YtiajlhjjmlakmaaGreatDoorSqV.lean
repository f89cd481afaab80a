/-
  The document's own reader as functions of where it stands (17.1). No program is named here.
-/
import Derived.Test.YtiajlhjjmlakmaaGreatDoorSqB
namespace Go.Proofs.YtiajlhjjmlakmaaGreatDoor.Num
set_option linter.unusedSimpArgs false
set_option linter.unusedVariables false
set_option linter.unusedVariables false
set_option maxRecDepth 100000

/-- Where the document's reader stands. -/
structure DS where
  i : Nat
  bad : Bool
  p : Nat
  long : Bool
def tokAt (l : List Tok) (i : Nat) : Tok := (l[i]?).getD ⟨0, ⟨#[]⟩, noV, 0⟩
def DS.fail (l : List Tok) (S : DS) : DS := if S.bad = true then S else { S with bad := true, p := (tokAt l S.i).p }
def DS.inc (S : DS) : DS := { S with i := S.i + 1 }
def isD (l : List Tok) (s : ByteArray) (S : DS) : Bool := !S.bad && ((decide ((tokAt l S.i).k = 1) || decide ((tokAt l S.i).k = 4)) && decide ((tokAt l S.i).t = s))
abbrev Dr (α : Type) := DS → α × DS
def retD {α : Type} (x : α) : Dr α := fun S => (x, S)
def bndD {α β : Type} (a : Dr α) (f : α → Dr β) : Dr β := fun S => f (a S).1 (a S).2
def optD {α : Type} (l : List Tok) (s : ByteArray) (yes no : Dr α) : Dr α := fun S => if isD l s S = true then yes S else no S
def incD : Dr Unit := fun S => ((), S.inc)
def failD (l : List Tok) : Dr Unit := fun S => ((), S.fail l)
def eatD (l : List Tok) (s : ByteArray) : Dr Unit := fun S => if isD l s S = true then ((), S.inc) else ((), S.fail l)
def nameD (l : List Tok) : Dr ByteArray := fun S => if S.bad = true ∨ (tokAt l S.i).k ≠ 2 then (⟨#[]⟩, S.fail l) else ((tokAt l S.i).t, S.inc)
def valueD (l : List Tok) : Dr Val := fun S => if isD l ⟨#[110, 117, 108, 108]⟩ S = true then (⟨0, 0, 0, ⟨#[]⟩⟩, S.inc) else if isD l ⟨#[116, 114, 117, 101]⟩ S = true then (⟨1, 1, 0, ⟨#[]⟩⟩, S.inc) else if isD l ⟨#[102, 97, 108, 115, 101]⟩ S = true then (⟨1, 0, 0, ⟨#[]⟩⟩, S.inc)
  else if S.bad = true ∨ (tokAt l S.i).k ≠ 3 then (⟨0, 0, 0, ⟨#[]⟩⟩, S.fail l) else ((tokAt l S.i).v, S.inc)
def DS.many (S : DS) (b : Bool) : DS := if b = true then { S with long := true } else S
def mostD (n : Nat) : Dr Unit := fun S => ((), S.many (decide (8 < n)))
def moreD {α : Type} (l : List Tok) (sep : ByteArray) (rd : Dr α) : Nat → List α → Dr (List α)
  | 0, acc => retD acc
  | n + 1, acc => optD l sep (bndD (eatD l sep) fun _ => bndD rd fun a => moreD l sep rd n (acc ++ [a])) (retD acc)
def namesD (l : List Tok) : Dr (List ByteArray) := bndD (eatD l ⟨#[40]⟩) fun _ => bndD (nameD l) fun a => bndD (moreD l ⟨#[44]⟩ (nameD l) l.length [a]) fun ns => bndD (eatD l ⟨#[41]⟩) fun _ => bndD (mostD ns.length) fun _ => retD ns
def condD (l : List Tok) : Dr Cnd := bndD (nameD l) fun c =>
  optD l ⟨#[61]⟩ (bndD incD fun _ => bndD (valueD l) fun v => retD ⟨c, 1, v⟩) (optD l ⟨#[60]⟩ (bndD incD fun _ => bndD (valueD l) fun v => retD ⟨c, 2, v⟩) (optD l ⟨#[62]⟩ (bndD incD fun _ => bndD (valueD l) fun v => retD ⟨c, 3, v⟩)
  (bndD (eatD l ⟨#[105, 115]⟩) fun _ => optD l ⟨#[110, 111, 116]⟩ (bndD (eatD l ⟨#[110, 111, 116]⟩) fun _ => bndD (eatD l ⟨#[110, 117, 108, 108]⟩) fun _ => retD ⟨c, 5, ⟨0, 0, 0, ⟨#[]⟩⟩⟩) (bndD (eatD l ⟨#[110, 117, 108, 108]⟩) fun _ => retD ⟨c, 4, ⟨0, 0, 0, ⟨#[]⟩⟩⟩))))
def whereD (l : List Tok) : Dr (List Cnd) := optD l ⟨#[119, 104, 101, 114, 101]⟩ (bndD (eatD l ⟨#[119, 104, 101, 114, 101]⟩) fun _ => bndD (condD l) fun a => bndD (moreD l ⟨#[97, 110, 100]⟩ (condD l) l.length [a]) fun cs => bndD (fun S => ((), S.many (decide (4 < cs.length)))) fun _ => retD cs) (retD [])
def setD1 (l : List Tok) : Dr Sett := bndD (nameD l) fun c => bndD (eatD l ⟨#[61]⟩) fun _ => fun S =>
  if S.bad = false ∧ (tokAt l S.i).k = 2 then (bndD (if (tokAt l S.i).t ≠ c then failD l else incD) fun _ => bndD (eatD l ⟨#[43]⟩) fun _ => bndD (valueD l) fun v => retD ⟨c, true, v⟩) S
  else (bndD (valueD l) fun v => retD ⟨c, false, v⟩) S
def setsD (l : List Tok) : Dr (List Sett) := bndD (setD1 l) fun a => bndD (moreD l ⟨#[44]⟩ (setD1 l) l.length [a]) fun ss => bndD (mostD ss.length) fun _ => retD ss
def kindD (l : List Tok) : Dr Int := optD l ⟨#[98, 111, 111, 108]⟩ (bndD incD fun _ => retD 1) (optD l ⟨#[105, 110, 116]⟩ (bndD incD fun _ => retD 2) (optD l ⟨#[102, 108, 111, 97, 116]⟩ (bndD incD fun _ => retD 3) (optD l ⟨#[98, 121, 116, 101, 115]⟩ (bndD incD fun _ => retD 4) (optD l ⟨#[116, 101, 120, 116]⟩ (bndD incD fun _ => retD 5) (bndD (failD l) fun _ => retD 0)))))
def columnD (l : List Tok) : Dr (ByteArray × Int) := bndD (nameD l) fun c => bndD (kindD l) fun k => retD (c, k)
def tableD (l : List Tok) : Dr Stm := bndD (eatD l ⟨#[116, 97, 98, 108, 101]⟩) fun _ => bndD (nameD l) fun t => bndD (eatD l ⟨#[40]⟩) fun _ => bndD (columnD l) fun c => bndD (eatD l ⟨#[112, 114, 105, 109, 97, 114, 121]⟩) fun _ => bndD (eatD l ⟨#[107, 101, 121]⟩) fun _ =>
  bndD (moreD l ⟨#[44]⟩ (columnD l) l.length [c]) fun cs => bndD (eatD l ⟨#[41]⟩) fun _ => bndD (mostD cs.length) fun _ => retD { Stm.zero with kind := 5, table := t, cols := cs.map (·.1), types := cs.map (·.2) }
def indexD (l : List Tok) (u : Bool) : Dr Stm := bndD (eatD l ⟨#[105, 110, 100, 101, 120]⟩) fun _ => bndD (nameD l) fun n => bndD (eatD l ⟨#[111, 110]⟩) fun _ => bndD (nameD l) fun t => bndD (namesD l) fun cs => retD { Stm.zero with kind := 6, name := n, table := t, uniq := u, cols := cs }
def createD (l : List Tok) : Dr Stm := bndD (eatD l ⟨#[99, 114, 101, 97, 116, 101]⟩) fun _ => optD l ⟨#[116, 97, 98, 108, 101]⟩ (tableD l) (optD l ⟨#[117, 110, 105, 113, 117, 101]⟩ (bndD (eatD l ⟨#[117, 110, 105, 113, 117, 101]⟩) fun _ => indexD l true) (indexD l false))
def alterD (l : List Tok) : Dr Stm := bndD (eatD l ⟨#[97, 108, 116, 101, 114]⟩) fun _ => bndD (eatD l ⟨#[116, 97, 98, 108, 101]⟩) fun _ => bndD (nameD l) fun t =>
  optD l ⟨#[97, 100, 100]⟩ (bndD (eatD l ⟨#[97, 100, 100]⟩) fun _ => bndD (eatD l ⟨#[99, 111, 108, 117, 109, 110]⟩) fun _ => bndD (nameD l) fun n => bndD (kindD l) fun k =>
    optD l ⟨#[100, 101, 102, 97, 117, 108, 116]⟩ (bndD (eatD l ⟨#[100, 101, 102, 97, 117, 108, 116]⟩) fun _ => bndD (valueD l) fun v => retD { Stm.zero with kind := 8, table := t, name := n, type := k, vals := [v] }) (retD { Stm.zero with kind := 8, table := t, name := n, type := k, vals := [] }))
  (optD l ⟨#[100, 114, 111, 112]⟩ (bndD (eatD l ⟨#[100, 114, 111, 112]⟩) fun _ => bndD (eatD l ⟨#[99, 111, 108, 117, 109, 110]⟩) fun _ => bndD (nameD l) fun n => retD { Stm.zero with kind := 9, table := t, name := n })
  (bndD (eatD l ⟨#[97, 108, 116, 101, 114]⟩) fun _ => bndD (eatD l ⟨#[99, 111, 108, 117, 109, 110]⟩) fun _ => bndD (nameD l) fun n => optD l ⟨#[100, 114, 111, 112]⟩
    (bndD (eatD l ⟨#[100, 114, 111, 112]⟩) fun _ => bndD (eatD l ⟨#[110, 111, 116]⟩) fun _ => bndD (eatD l ⟨#[110, 117, 108, 108]⟩) fun _ => retD { Stm.zero with kind := 11, table := t, name := n })
    (bndD (eatD l ⟨#[115, 101, 116]⟩) fun _ => bndD (eatD l ⟨#[110, 111, 116]⟩) fun _ => bndD (eatD l ⟨#[110, 117, 108, 108]⟩) fun _ => retD { Stm.zero with kind := 10, table := t, name := n })))
def insertD (l : List Tok) : Dr Stm := bndD (eatD l ⟨#[105, 110, 115, 101, 114, 116]⟩) fun _ => bndD (eatD l ⟨#[105, 110, 116, 111]⟩) fun _ => bndD (nameD l) fun t => bndD (namesD l) fun cs => bndD (eatD l ⟨#[118, 97, 108, 117, 101, 115]⟩) fun _ => bndD (eatD l ⟨#[40]⟩) fun _ => bndD (valueD l) fun v =>
  bndD (moreD l ⟨#[44]⟩ (valueD l) l.length [v]) fun vs => bndD (eatD l ⟨#[41]⟩) fun _ => bndD (mostD vs.length) fun _ => retD { Stm.zero with kind := 1, table := t, cols := cs, vals := vs }
def updateD (l : List Tok) : Dr Stm := bndD (eatD l ⟨#[117, 112, 100, 97, 116, 101]⟩) fun _ => bndD (nameD l) fun t => bndD (eatD l ⟨#[115, 101, 116]⟩) fun _ => bndD (setsD l) fun ss => bndD (whereD l) fun cs => retD { Stm.zero with kind := 2, table := t, sets := ss, conds := cs }
def deleteD (l : List Tok) : Dr Stm := bndD (eatD l ⟨#[100, 101, 108, 101, 116, 101]⟩) fun _ => bndD (eatD l ⟨#[102, 114, 111, 109]⟩) fun _ => bndD (nameD l) fun t => bndD (whereD l) fun cs => retD { Stm.zero with kind := 3, table := t, conds := cs }
def selectD (l : List Tok) : Dr Stm := bndD (eatD l ⟨#[115, 101, 108, 101, 99, 116]⟩) fun _ => optD l ⟨#[42]⟩
  (bndD (eatD l ⟨#[42]⟩) fun _ => bndD (eatD l ⟨#[102, 114, 111, 109]⟩) fun _ => bndD (nameD l) fun t => bndD (whereD l) fun cs => retD { Stm.zero with kind := 4, table := t, cols := [], conds := cs })
  (bndD (nameD l) fun a => bndD (moreD l ⟨#[44]⟩ (nameD l) l.length [a]) fun ns => bndD (mostD ns.length) fun _ => bndD (eatD l ⟨#[102, 114, 111, 109]⟩) fun _ => bndD (nameD l) fun t => bndD (whereD l) fun cs => retD { Stm.zero with kind := 4, table := t, cols := ns, conds := cs })
def rowsD (l : List Tok) : Dr Stm := optD l ⟨#[105, 110, 115, 101, 114, 116]⟩ (insertD l) (optD l ⟨#[117, 112, 100, 97, 116, 101]⟩ (updateD l) (optD l ⟨#[100, 101, 108, 101, 116, 101]⟩ (deleteD l) (selectD l)))
def dropD (l : List Tok) : Dr Stm := bndD (eatD l ⟨#[100, 114, 111, 112]⟩) fun _ => bndD (eatD l ⟨#[105, 110, 100, 101, 120]⟩) fun _ => bndD (nameD l) fun n => bndD (eatD l ⟨#[111, 110]⟩) fun _ => bndD (nameD l) fun t => retD { Stm.zero with kind := 7, name := n, table := t }
def stmtD (l : List Tok) : Dr Stm := optD l ⟨#[99, 114, 101, 97, 116, 101]⟩ (createD l) (optD l ⟨#[100, 114, 111, 112]⟩ (dropD l) (optD l ⟨#[97, 108, 116, 101, 114]⟩ (alterD l) (rowsD l)))
def semiD (l : List Tok) : Dr Unit := optD l ⟨#[59]⟩ (eatD l ⟨#[59]⟩) (retD ())
def closeD (l : List Tok) : Dr Unit := fun S => if S.bad = false ∧ (tokAt l S.i).k ≠ 0 then ((), S.fail l) else ((), S)
def parseD (l : List Tok) : Dr Stm := bndD (stmtD l) fun x => bndD (semiD l) fun _ => bndD (closeD l) fun _ => retD x
/-- What the document's Parse tells of tokens. -/
def tellD (o : Stm × DS) : Option Stm × Nat × Int := if o.2.bad = true then (none, o.2.p, 3) else if o.2.long = true then (none, 0, 2) else (some o.1, 0, 0)
theorem isD_lt {l : List Tok} (hE : ∀ (i : Nat) (x : Tok), l[i]? = some x → i + 1 < l.length ∨ (x.k = 0 ∧ x.t = ⟨#[]⟩)) {s : ByteArray} {S : DS} (hi : S.i < l.length) (h : isD l s S = true) : S.i + 1 < l.length := by
  unfold isD at h
  simp only [Bool.and_eq_true, Bool.or_eq_true, decide_eq_true_eq] at h
  have hx : l[S.i]? = some (tokAt l S.i) := by
    unfold tokAt
    rw [List.getElem?_eq_getElem hi]
    rfl
  rcases hE _ _ hx with h2 | ⟨h2, _⟩
  · exact h2
  · rcases h.2.1 with h3 | h3 <;> omega
end Go.Proofs.YtiajlhjjmlakmaaGreatDoor.Num
