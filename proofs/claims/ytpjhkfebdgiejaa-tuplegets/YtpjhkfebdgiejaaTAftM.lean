/-
  What is behind all texts that begin so, as a function of lists. No program is named here.
-/
import Derived.Test.YtpjhkfebdgiejaaVGetM
namespace Go.Proofs.Ytpjhkfebdgiejaa.Num

/-- Of the bytes turned round: without the first bytes 255, and the next one more. -/
def aftR : List UInt8 → Option (List UInt8)
  | [] => none
  | b :: r => if b = 255 then aftR r else some ((b + 1) :: r)
/-- The least text above all that begin so (3.3). -/
def aft (l : List UInt8) : Option (List UInt8) := (aftR l.reverse).map List.reverse
/-- What After tells of that. -/
def aftV : Option (List UInt8) → Value
  | none => .tuple #[.string ⟨#[]⟩, .bool false]
  | some l => .tuple #[.string (str l), .bool true]

theorem take_rev (s : ByteArray) (k : Nat) (hk : k < s.size) : (s.data.toList.take (k + 1)).reverse = s[k] :: (s.data.toList.take k).reverse := by
  rw [take_snoc s k hk, List.reverse_append]
  rfl
theorem aftR_255 (s : ByteArray) (k : Nat) (hk : k < s.size) (h : s[k] = 255) : aftR (s.data.toList.take (k + 1)).reverse = aftR (s.data.toList.take k).reverse := by
  rw [take_rev s k hk, aftR, if_pos h]
theorem aftR_other (s : ByteArray) (k : Nat) (hk : k < s.size) (h : ¬ s[k] = 255) : aftR (s.data.toList.take (k + 1)).reverse = some ((s[k] + 1) :: (s.data.toList.take k).reverse) := by
  rw [take_rev s k hk, aftR, if_neg h]
theorem aft_none {s : ByteArray} (h : aftR (s.data.toList.take 0).reverse = aftR s.data.toList.reverse) : aft s.data.toList = none := by
  unfold aft
  rw [← h]
  rfl
theorem aft_some {s : ByteArray} {k : Nat} (hk : k < s.size) (hb : ¬ s[k] = 255) (h : aftR (s.data.toList.take (k + 1)).reverse = aftR s.data.toList.reverse) : aft s.data.toList = some (s.data.toList.take k ++ [s[k] + 1]) := by
  unfold aft
  rw [← h, aftR_other s k hk hb]
  simp
end Go.Proofs.Ytpjhkfebdgiejaa.Num
