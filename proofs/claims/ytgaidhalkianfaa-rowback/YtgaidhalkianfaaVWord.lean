/-
  Contracts: a number behind its head, in eight bytes, the highest first.
-/
import Derived.Test.YtgaidhalkianfaaVMay
import Derived.Test.YtgaidhalkianfaaVByt
import Derived.Laws.IdiomStrings
namespace Go.Proofs.Ytgaidhalkianfaa
open Go.RowKit Num

theorem Try.infoU8 : (Try.prog.info? 5).map (fun i => (i.zero, i.size, i.bytes)) = some (some (.int .u8 0), 1, 1) := by kernel_rfl

theorem length_cellsOf (l : List UInt8) : (cellsOf l).length = l.length := by simp [cellsOf]

/-- 'string(b)' of a slice of the call's own. -/
theorem conv_own (w : World) (base : Nat) (v : Value) (n : Nat) (l : List UInt8) (h : w.ownsRow base 5 1 v n (cellsOf l)) :
    (convert 53 9 v).run Try.prog w = .ok (.string (str l)) w := by
  have hn : n = l.length := by have := h.1; simp [cellsOf] at this; omega
  subst hn
  rcases h.2 with ⟨rfl, hl⟩ | ⟨g, cap, cur, rfl, _, hg, _, _, _, ht⟩
  · have : l = [] := List.eq_nil_of_length_eq_zero hl
    subst this
    rw [run_convert_bytes_string w 53 9 5 none 0 0 Try.underlying53 Try.underlying5 Try.underlying9]
    rfl
  · refine run_convert_bytes_back w 53 9 5 ⟨g, 0, none⟩ cap l Try.underlying53 Try.underlying5 Try.underlying9 ?_
    intro j hj
    refine h.cells (g := g) rfl j _ ?_
    simp [cellsOf, List.getElem?_eq_getElem hj]

/-- 'append' of bytes to a slice of the call's own. -/
theorem wpList_app {ops : Array Oper} {rest : List Oper} {o : Oper} {a : Act} {Q : Exit → Act → World → Prop} (w : World) (hgd : o.guard = none) (s x : Operand)
    (ho : o.op = .call { callee := .builtin .append, args := #[s, x], argTypes := #[53, 53] })
    (base : Nat) (v : Value) (n : Nat) (l : List UInt8) (hs : a.eval s = v) (hown : w.ownsRow base 5 1 v n (cellsOf l))
    (ad : Addr) (m c : Nat) (news : List UInt8) (hx : a.eval x = .slice (some ad) m c) (hl : news.length = m) (hnews : ∀ j u, (cellsOf news)[j]? = some u → w.cell? (ad.add j) = some u)
    (hb : n + m ≤ 1000000) (hbase : base ≤ w.heap.size)
    (h : ∀ v' w', w'.ownsRow base 5 1 v' (n + m) (cellsOf (l ++ news)) → Below base w w' → wpList Try.prog ops Q rest (a.put o.dst v') w') : wpList Try.prog ops Q (o :: rest) a w := by
  obtain ⟨i0, hi, hz0, hz1, hz2⟩ := info_parts Try.infoU8
  refine wpList_append_own w hgd s x 53 ho base 5 i0 (.int .u8 0) 1 1 Try.underlying53 hi hz0 hz1 hz2 rfl (by decide) v n (cellsOf l) hs hown ad m c (cellsOf news) hx (by simp [cellsOf, hl]) hnews ?_ (by unfold maxLen; omega) (by omega) hbase ?_
  · intro u hu
    simp only [cellsOf, List.mem_map] at hu
    obtain ⟨b, _, rfl⟩ := hu
    rfl
  · intro v' w' hown' hgrow _
    have e : cellsOf l ++ cellsOf news = cellsOf (l ++ news) := by simp [cellsOf]
    rw [e] at hown'
    exact h v' w' hown' (Below.grown (Below.refl base w) hgrow hbase (fun k hk => (hown.lt k hk).1))

/-- What lies in a new block of one byte. -/
theorem one_new (w : World) (t : TypeId) (b : UInt8) (x : Int) (hx : x = (b.toNat : Int)) :
    ∀ j u, (cellsOf [b])[j]? = some u → (w.alloc (.cells #[.int .u8 x] t)).cell? ((⟨w.heap.size, 0, none⟩ : Addr).add j) = some u := by
  intro j u hj
  subst hx
  match j, hj with
  | 0, hj => simp [cellsOf] at hj; subst hj; simp [Addr.add]
theorem two_new (w : World) (t : TypeId) (b c : UInt8) (x y : Int) (hx : x = (b.toNat : Int)) (hy : y = (c.toNat : Int)) :
    ∀ j u, (cellsOf [b, c])[j]? = some u → (w.alloc (.cells #[.int .u8 x, .int .u8 y] t)).cell? ((⟨w.heap.size, 0, none⟩ : Addr).add j) = some u := by
  intro j u hj
  subst hx hy
  match j, hj with
  | 0, hj => simp [cellsOf] at hj; subst hj; simp [Addr.add]
  | 1, hj => simp [cellsOf] at hj; subst hj; simp [Addr.add]

theorem below_size {B : Nat} {w w' : World} (h : Below B w w') (hB : B ≤ w.heap.size) : B ≤ w'.heap.size := Nat.le_trans hB h.size

theorem byte_int (n j : Nat) : ((n : Int) / 2 ^ (8 * j) % 256) = ((byteAt n j).toNat : Int) := by
  have e : ((n : Int) / 2 ^ (8 * j)) = ((n / 2 ^ (8 * j) : Nat) : Int) := by
    rw [Int.natCast_ediv, Int.natCast_pow]
    rfl
  rw [e]
  simp only [byteAt, UInt8.toNat_ofNat']
  omega
theorem beTake_next (n k j : Nat) (h : j = 7 - k) (c : UInt8) : (c :: beTake n k) ++ [byteAt n j] = c :: beTake n (k + 1) := by
  subst h
  rfl

theorem putWord_any (c : UInt8) (n : Nat) (w : World) :
    Calls Try.prog 34 #[.int .u8 (c.toNat : Int), .int .u64 (n : Int)] w fun e w' => e = .returned (.string (str (c :: be8 n))) ∧ Below w.heap.size w w' := by
  obtain ⟨i0, hi, hz0, hz1, hz2⟩ := info_parts Try.infoU8
  go_enter Try.func34, Try.ntmps34
  go_wp2_with (first
    | (at_make; refine wpList_make_own _ rfl _ _ 53 rfl w.heap.size 5 i0 (.int .u8 0) 1 Try.underlying53 hi hz0 hz1 _ _ _ 9 rfl rfl (by omega) (by rw [hz2]; omega) (by unfold maxLen; omega) (Nat.le_refl _) ?_; intro w1 hown1 hgrow1)
    | (at_builtin; refine wpList_app _ rfl _ _ rfl w.heap.size _ 0 [] rfl (World.ownsRow.alloc hown1 _) _ _ _ [c] rfl rfl (one_new _ _ _ _ rfl) (by omega) (by have := hgrow1.size; simp; omega) ?_; intro v2 w2 hown2 hbel2))
  have hb2 : Below w.heap.size w w2 := ((Below.refl _ _).grown hgrow1 (Nat.le_refl _) (by simp)).trans (((Below.refl _ _).alloc hgrow1.size _).trans hbel2)
  clear hgrow1 hbel2 hown1
  go_loopw [5, 6] (fun v i wr => ∃ k : Nat, k ≤ 8 ∧ i = .int .i64 (7 - (k : Int)) ∧ wr.ownsRow w.heap.size 5 1 v (1 + k) (cellsOf (c :: beTake n k)) ∧ Below w.heap.size w wr) (fun _ i _ => (intOf i + 1).toNat)
  case atStart => exact ⟨0, by omega, rfl, hown2, hb2⟩
  case round =>
    obtain ⟨k, hk, rfl, hown, hbel⟩ := hrel
    clear hown2 hb2
    have hsz := hbel.size
    by_cases hk8 : k < 8
    · obtain ⟨j, hj⟩ : ∃ j : Nat, (7 : Int) - (k : Int) = (j : Int) := ⟨7 - k, by omega⟩
      have HD : Hid (j = 7 - k) := by unfold Hid; omega
      have hj8 : j ≤ 7 := by omega
      rw [hj]
      clear hj
      go_wp2_with (first
        | (at_builtin; refine wpList_app _ rfl _ _ rfl w.heap.size _ (1 + k) (c :: beTake n k) rfl (World.ownsRow.alloc hown _) _ _ _ [byteAt n j] rfl rfl (one_new _ _ _ _ (byte_int n j)) (by omega) (by simp; omega) ?_; intro v3 w3 hown3 hbel3))
      have hb3 : Below w.heap.size w w3 := (hbel.alloc hsz _).trans hbel3
      rw [beTake_next n k j HD.out] at hown3
      go_roundw
      case rel => exact ⟨k + 1, by omega, by have := HD.out; go_num, by rw [show 1 + (k + 1) = 1 + k + 1 by omega]; exact hown3, hb3⟩
      case measure => simp [intOf]
    · have hk8 : k = 8 := by omega
      subst hk8
      have hconv := conv_own wr _ _ _ _ hown
      go_wp2
      go_ret
      exact ⟨rfl, hbel⟩
end Go.Proofs.Ytgaidhalkianfaa
