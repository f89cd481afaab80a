/-
  The bytes of a value as a list, and the number of bytes, as functions of numbers and lists. No program is named here.
-/
import Derived.Test.YtiajlhjjmlakmaaGreatDoorVDef
namespace Go.Proofs.YtiajlhjjmlakmaaGreatDoor.Num

/-- A list of bytes as a text. -/
def str (l : List UInt8) : ByteArray := ⟨l.toArray⟩
/-- The bytes of a text, as cells. -/
def cellsOf (l : List UInt8) : List Value := l.map (fun b => Value.int .u8 (b.toNat : Int))
/-- Byte i of a number, counted from the lowest. -/
def byteAt (n i : Nat) : UInt8 := UInt8.ofNat (n / 2 ^ (8 * i) % 256)
/-- A number's k highest bytes, of eight. -/
def beTake (n : Nat) : Nat → List UInt8
  | 0 => []
  | k + 1 => beTake n k ++ [byteAt n (7 - k)]
/-- A number in eight bytes, the highest first. -/
def be8 (n : Nat) : List UInt8 := beTake n 8
/-- The number of bytes, the highest first. -/
def numOf : List UInt8 → Nat := fun l => l.foldl (fun a b => a * 256 + b.toNat) 0
/-- A text with each byte 00 as 00 ff. -/
def esc : List UInt8 → List UInt8
  | [] => []
  | b :: r => if b = 0 then 0 :: 255 :: esc r else b :: esc r
/-- The bytes of a value that may be (2.2). -/
def putL (k n : Int) (f : Nat) (s : ByteArray) : List UInt8 :=
  if k = 1 then [UInt8.ofNat (2 + n.toNat)]
  else if k = 2 then 4 :: be8 (n + 9223372036854775808).toNat
  else if k = 3 then 5 :: be8 (place f)
  else if k = 4 then 6 :: (esc s.data.toList ++ [0, 1])
  else if k = 5 then 7 :: (esc s.data.toList ++ [0, 1])
  else [1]
end Go.Proofs.YtiajlhjjmlakmaaGreatDoor.Num
