/-
  Statements as records, and what is read from tokens (17.1). No program is named here.
-/
import Derived.Test.YtiajlhjjmlakmaaGreatDoorLxN
namespace Go.Proofs.YtiajlhjjmlakmaaGreatDoor.Num
set_option linter.unusedSimpArgs false
set_option linter.unusedVariables false

/-- What a token says. -/
abbrev TkC := Int × ByteArray × Val
def cont (x : Tok) : TkC := (x.k, x.t, x.v)
/-- A reader: what it tells (none: it gives up), and the tokens that are left. -/
abbrev Rd (α : Type) := List TkC → Option α × List TkC
def ret {α : Type} (x : α) : Rd α := fun r => (some x, r)
def bnd {α β : Type} (a : Rd α) (f : α → Rd β) : Rd β := fun r => match a r with
  | (some x, q) => f x q
  | (none, q) => (none, q)
/-- Is this text next? -/
def isT (s : ByteArray) : List TkC → Bool
  | [] => false
  | x :: _ => x.2.1.data.toList == s.data.toList
def takeR (s : ByteArray) : Rd Unit := fun r => if isT s r = true then (some (), r.tail) else (none, r)
def opt {α : Type} (s : ByteArray) (yes no : Rd α) : Rd α := fun r => if isT s r = true then yes r.tail else no r
def kindR (k : Int) : Rd TkC
  | [] => (none, [])
  | x :: q => if x.1 = k then (some x, q) else (none, x :: q)
def nameR : Rd ByteArray := bnd (kindR 2) fun x => ret x.2.1
def valueR : Rd Val := opt ⟨#[110, 117, 108, 108]⟩ (ret ⟨0, 0, 0, ⟨#[]⟩⟩) (opt ⟨#[116, 114, 117, 101]⟩ (ret ⟨1, 1, 0, ⟨#[]⟩⟩) (opt ⟨#[102, 97, 108, 115, 101]⟩ (ret ⟨1, 0, 0, ⟨#[]⟩⟩) (bnd (kindR 3) fun x => ret x.2.2)))
def listN {α : Type} (sep : ByteArray) (rd : Rd α) : Nat → List α → Rd (List α)
  | 0, acc => ret acc
  | n + 1, acc => opt sep (bnd rd fun a => listN sep rd n (acc ++ [a])) (ret acc)
def listR {α : Type} (sep : ByteArray) (rd : Rd α) : Rd (List α) := fun r => bnd rd (fun a => listN sep rd r.length [a]) r
def rowR {α : Type} (rd : Rd α) : Rd (List α) := bnd (takeR ⟨#[40]⟩) fun _ => bnd (listR ⟨#[44]⟩ rd) fun x => bnd (takeR ⟨#[41]⟩) fun _ => ret x
/-- Takes several texts, one behind the other. -/
def takesR : List ByteArray → Rd Unit
  | [] => ret ()
  | s :: q => bnd (takeR s) fun _ => takesR q

/-- A condition. -/
structure Cnd where
  col : ByteArray
  sign : Int
  v : Val
/-- What a column gets. -/
structure Sett where
  col : ByteArray
  add : Bool
  v : Val
/-- A statement. -/
structure Stm where
  kind : Int
  table : ByteArray
  name : ByteArray
  cols : List ByteArray
  vals : List Val
  sets : List Sett
  conds : List Cnd
  uniq : Bool
  type : Int
  types : List Int
def Stm.zero : Stm := ⟨0, ⟨#[]⟩, ⟨#[]⟩, [], [], [], [], false, 0, []⟩
def signR : Rd Int := opt ⟨#[61]⟩ (ret 1) (opt ⟨#[60]⟩ (ret 2) (bnd (takeR ⟨#[62]⟩) fun _ => ret 3))
def condR : Rd Cnd := bnd nameR fun c => opt ⟨#[105, 115]⟩
  (opt ⟨#[110, 111, 116]⟩ (bnd (takeR ⟨#[110, 117, 108, 108]⟩) fun _ => ret ⟨c, 5, ⟨0, 0, 0, ⟨#[]⟩⟩⟩) (bnd (takeR ⟨#[110, 117, 108, 108]⟩) fun _ => ret ⟨c, 4, ⟨0, 0, 0, ⟨#[]⟩⟩⟩))
  (bnd signR fun g => bnd valueR fun v => ret ⟨c, g, v⟩)
def whereR : Rd (List Cnd) := opt ⟨#[119, 104, 101, 114, 101]⟩ (listR ⟨#[97, 110, 100]⟩ condR) (ret [])
def setR : Rd Sett := bnd nameR fun c => bnd (takeR ⟨#[61]⟩) fun _ => opt c
  (bnd (takeR ⟨#[43]⟩) fun _ => bnd valueR fun v => ret ⟨c, true, v⟩) (bnd valueR fun v => ret ⟨c, false, v⟩)
def typeR : Rd Int := opt ⟨#[98, 111, 111, 108]⟩ (ret 1) (opt ⟨#[105, 110, 116]⟩ (ret 2) (opt ⟨#[102, 108, 111, 97, 116]⟩ (ret 3) (opt ⟨#[98, 121, 116, 101, 115]⟩ (ret 4) (bnd (takeR ⟨#[116, 101, 120, 116]⟩) fun _ => ret 5))))
def columnR : Rd (ByteArray × Int) := bnd nameR fun c => bnd typeR fun k => ret (c, k)
def insertR : Rd Stm := bnd (takeR ⟨#[105, 110, 116, 111]⟩) fun _ => bnd nameR fun t => bnd (rowR nameR) fun cs => bnd (takeR ⟨#[118, 97, 108, 117, 101, 115]⟩) fun _ => bnd (rowR valueR) fun vs =>
  ret { Stm.zero with kind := 1, table := t, cols := cs, vals := vs }
def updateR : Rd Stm := bnd nameR fun t => bnd (takeR ⟨#[115, 101, 116]⟩) fun _ => bnd (listR ⟨#[44]⟩ setR) fun ss => bnd whereR fun cs => ret { Stm.zero with kind := 2, table := t, sets := ss, conds := cs }
def deleteR : Rd Stm := bnd (takeR ⟨#[102, 114, 111, 109]⟩) fun _ => bnd nameR fun t => bnd whereR fun cs => ret { Stm.zero with kind := 3, table := t, conds := cs }
def selectR : Rd Stm := bnd (opt ⟨#[42]⟩ (ret []) (listR ⟨#[44]⟩ nameR)) fun ns => bnd (takeR ⟨#[102, 114, 111, 109]⟩) fun _ => bnd nameR fun t => bnd whereR fun cs => ret { Stm.zero with kind := 4, table := t, cols := ns, conds := cs }
def tableR : Rd Stm := bnd nameR fun t => bnd (takeR ⟨#[40]⟩) fun _ => bnd columnR fun c => bnd (takesR [⟨#[112, 114, 105, 109, 97, 114, 121]⟩, ⟨#[107, 101, 121]⟩]) fun _ => bnd (opt ⟨#[44]⟩ (listR ⟨#[44]⟩ columnR) (ret [])) fun cs => bnd (takeR ⟨#[41]⟩) fun _ =>
  ret { Stm.zero with kind := 5, table := t, cols := (c :: cs).map (·.1), types := (c :: cs).map (·.2) }
/-- Which index is meant: its name, its table's. -/
def indexR : Rd (ByteArray × ByteArray) := bnd (takeR ⟨#[105, 110, 100, 101, 120]⟩) fun _ => bnd nameR fun n => bnd (takeR ⟨#[111, 110]⟩) fun _ => bnd nameR fun t => ret (n, t)
def addIndexR (u : Bool) : Rd Stm := bnd indexR fun x => bnd (rowR nameR) fun cs => ret { Stm.zero with kind := 6, name := x.1, table := x.2, uniq := u, cols := cs }
def createR : Rd Stm := opt ⟨#[116, 97, 98, 108, 101]⟩ tableR (opt ⟨#[117, 110, 105, 113, 117, 101]⟩ (addIndexR true) (addIndexR false))
def dropIndexR : Rd Stm := bnd indexR fun x => ret { Stm.zero with kind := 7, name := x.1, table := x.2 }
def addColumnR (t : ByteArray) : Rd Stm := bnd (takeR ⟨#[99, 111, 108, 117, 109, 110]⟩) fun _ => bnd nameR fun n => bnd typeR fun k => bnd (opt ⟨#[100, 101, 102, 97, 117, 108, 116]⟩ (bnd valueR fun v => ret [v]) (ret [])) fun vs => ret { Stm.zero with kind := 8, table := t, name := n, type := k, vals := vs }
def dropColumnR (t : ByteArray) : Rd Stm := bnd (takeR ⟨#[99, 111, 108, 117, 109, 110]⟩) fun _ => bnd nameR fun n => ret { Stm.zero with kind := 9, table := t, name := n }
/-- What becomes of a column's rule. -/
def nullR : Rd Int := bnd (opt ⟨#[115, 101, 116]⟩ (ret 10) (bnd (takeR ⟨#[100, 114, 111, 112]⟩) fun _ => ret 11)) fun k => bnd (takesR [⟨#[110, 111, 116]⟩, ⟨#[110, 117, 108, 108]⟩]) fun _ => ret k
def alterR : Rd Stm := bnd (takeR ⟨#[116, 97, 98, 108, 101]⟩) fun _ => bnd nameR fun t => opt ⟨#[97, 100, 100]⟩ (addColumnR t) (opt ⟨#[100, 114, 111, 112]⟩ (dropColumnR t)
  (bnd (takesR [⟨#[97, 108, 116, 101, 114]⟩, ⟨#[99, 111, 108, 117, 109, 110]⟩]) fun _ => bnd nameR fun n => bnd nullR fun k => ret { Stm.zero with kind := k, table := t, name := n }))
def stmtR : Rd Stm := opt ⟨#[105, 110, 115, 101, 114, 116]⟩ insertR (opt ⟨#[117, 112, 100, 97, 116, 101]⟩ updateR (opt ⟨#[100, 101, 108, 101, 116, 101]⟩ deleteR (opt ⟨#[115, 101, 108, 101, 99, 116]⟩ selectR (opt ⟨#[99, 114, 101, 97, 116, 101]⟩ createR (opt ⟨#[100, 114, 111, 112]⟩ dropIndexR (bnd (takeR ⟨#[97, 108, 116, 101, 114]⟩) fun _ => alterR))))))
def endR : Rd Unit := fun r => match (if isT ⟨#[59]⟩ r = true then r.tail else r) with
  | [] => (none, [])
  | x :: q => if x.1 = 0 then (some (), x :: q) else (none, x :: q)
def parseR : Rd Stm := bnd stmtR fun x => bnd endR fun _ => ret x
def tooMany (x : Stm) : Bool := decide (8 < max (max (max x.cols.length x.types.length) x.vals.length) x.sets.length) || decide (4 < x.conds.length)
/-- The place of the token at which a reader gave up. -/
def placeAt (l : List Tok) (q : List TkC) : Nat := ((l[l.length - q.length]?).map (·.p)).getD 0
/-- What Parse tells of a text's tokens. -/
def parseL (l : List Tok) : Option Stm × Nat × Int := match parseR (l.map cont) with
  | (none, q) => (none, placeAt l q, 3)
  | (some x, _) => if tooMany x = true then (none, 0, 2) else (some x, 0, 0)
/-- What Parse tells. -/
def parseG (s : ByteArray) : Option Stm × Nat × Int :=
  if 400 < s.size then (none, 0, 2) else match lexAt s 0 with
    | (none, p) => (none, p, 3)
    | (some l, _) => parseL l
theorem toL_inj {a b : ByteArray} (h : a.data.toList = b.data.toList) : a = b := by
  obtain ⟨⟨a⟩⟩ := a
  obtain ⟨⟨b⟩⟩ := b
  have h : a = b := h
  rw [h]
theorem isT_iff (s : ByteArray) (x : TkC) (q : List TkC) : isT s (x :: q) = decide (x.2.1 = s) := by
  show (x.2.1.data.toList == s.data.toList) = _
  rw [Bool.eq_iff_iff, beq_iff_eq, decide_eq_true_iff]
  exact ⟨toL_inj, fun h => by rw [h]⟩
end Go.Proofs.YtiajlhjjmlakmaaGreatDoor.Num
