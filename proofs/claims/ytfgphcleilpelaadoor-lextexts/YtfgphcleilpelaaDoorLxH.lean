/-
  Contracts: the document's bytes as hexadecimal digits.
-/
import Derived.Test.YtfgphcleilpelaaDoorLxD
import Derived.Maps.AppendAt
import Derived.Deep.RegionLaw
import Derived.BigRegion
namespace Go.Proofs.YtfgphcleilpelaaDoor
open Go.RowKit Num
set_option linter.unusedVariables false
set_option maxRecDepth 100000

def digS : ByteArray := ⟨#[48, 49, 50, 51, 52, 53, 54, 55, 56, 57, 97, 98, 99, 100, 101, 102]⟩
def hx (n : Nat) : UInt8 := digS.data.getD n 0
def hexL (l : List UInt8) : List UInt8 := l.flatMap fun b => [hx (b.toNat / 16), hx (b.toNat % 16)]
theorem hx_at (n : Nat) (h : n < 16) : (⟨#[48, 49, 50, 51, 52, 53, 54, 55, 56, 57, 97, 98, 99, 100, 101, 102]⟩ : ByteArray)[n]'h = hx n := by
  unfold hx digS
  simp [Array.getD, h]
  rfl
theorem step_app_run {ops : Array Oper} {o : Oper} {a : Act} {w : World} {K : Act → World → Prop} {Q : Exit → Act → World → Prop} {E : Prop} (hgd : o.guard = none) (s x : Operand) (t : TypeId)
    (ho : o.op = .call { callee := .builtin .append, args := #[s, x], argTypes := #[t, t] }) (v u : Value) (hs : a.eval s = v) (hx : a.eval x = u) {v' : Value} {w' : World}
    (hr : (Builtin.append_ #[t, t] o.type #[v, u]).run Tryd.prog w = .ok v' w') (h : K (a.put o.dst v') w') : if Region.wanted o (yielded ops a.tmps) = true then Oper.wp Tryd.prog o a w K Q else E := by
  have hw : Region.wanted o (yielded ops a.tmps) = true := by simp [Region.wanted, hgd]
  rw [if_pos hw]
  unfold Oper.wp execOp
  simp only [ho, resolve, invoke, builtin, Sem.run_bind, Sem.run_pure, Result.andThen_ok, List.map_toArray, List.map_cons, List.map_nil, hs, hx, hr]
  exact h
theorem run_two (W : World) (base : Nat) (v : Value) (l : List UInt8) (hown : W.ownsRow base 5 1 v l.length (cellsOf l)) (b c : UInt8) (hl : l.length ≤ 100000) (hbase : base ≤ W.heap.size) :
    ∃ v' w', (Builtin.append_ #[34, 34] 34 #[v, .slice (some ⟨W.heap.size, 0, none⟩) 2 2]).run Tryd.prog ((W.alloc (.cells #[.int .u8 (b.toNat : Int), .int .u8 (c.toNat : Int)] 5)).drew) = .ok v' w' ∧
      w'.ownsRow base 5 1 v' (l ++ [b, c]).length (cellsOf (l ++ [b, c])) ∧ Below base W w' := by
  obtain ⟨i0, hi, hz0, hz1, hz2⟩ := info_parts Tryd.infoU8
  obtain ⟨v', w', hr, h2, h3, _, _⟩ := run_append_own_at (P := Tryd.prog) ((W.alloc (.cells #[.int .u8 (b.toNat : Int), .int .u8 (c.toNat : Int)] 5)).drew) base 34 34 5 i0 (.int .u8 0) 1 1 Tryd.underlying34 hi hz0 hz1 hz2 rfl (by decide) v l.length (cellsOf l) (World.ownsRow.drew (World.ownsRow.alloc hown _)) ⟨W.heap.size, 0, none⟩ 2 2 (cellsOf [b, c]) rfl (by
      intro j u hj
      have := two_new W 5 b c _ _ rfl rfl j u hj
      exact this) (by
      intro u hu
      simp only [cellsOf, List.map_cons, List.map_nil, List.mem_cons, List.not_mem_nil, or_false] at hu
      rcases hu with rfl | rfl <;> rfl) (by unfold maxLen; omega) (by omega) (by simp; omega)
  refine ⟨v', w', hr, ?_, ?_⟩
  · have e : cellsOf l ++ cellsOf [b, c] = cellsOf (l ++ [b, c]) := by simp [cellsOf]
    rw [e] at h2
    rw [show (l ++ [b, c]).length = l.length + 2 by simp]
    exact h2
  · exact ((((Below.refl base W).alloc hbase _).drew).grown h3 (by simp; omega) (fun k hk => (hown.lt k hk).1))
theorem hexL_len : ∀ l : List UInt8, (hexL l).length = 2 * l.length
  | [] => rfl
  | b :: l => by
    have := hexL_len l
    show (hx _ :: hx _ :: hexL l).length = _
    simp only [List.length_cons]
    omega
theorem hexL_take (s : ByteArray) (k : Nat) (hk : k < s.size) : hexL (s.data.toList.take (k + 1)) = hexL (s.data.toList.take k) ++ [hx (s[k].toNat / 16), hx (s[k].toNat % 16)] := by
  rw [take_snoc s k hk]
  simp [hexL]
set_option maxHeartbeats 1000000 in
theorem hex_any (s : ByteArray) (hs : s.size ≤ 1000) (w : World) :
    Calls Tryd.prog 23 #[.string s] w fun e w' => e = .returned (.string (str (hexL s.data.toList))) ∧ Below w.heap.size w w' := by
  have hsm : (s.size : Int) ≤ 1000 := by omega
  go_enter Tryd.func23, Tryd.ntmps23
  go_wp2
  go_loopw [3, 4] (fun v i wr => ∃ (k : Nat), k ≤ s.size ∧ i = .int .i64 (k : Int) ∧ wr.ownsRow w.heap.size 5 1 v (hexL (s.data.toList.take k)).length (cellsOf (hexL (s.data.toList.take k))) ∧ Below w.heap.size w wr) (fun _ i _ => s.size - (intOf i).toNat)
  case atStart => exact ⟨0, by omega, rfl, World.ownsRow_nil _ _ _ _, Below.refl _ _⟩
  case round =>
    obtain ⟨k, hk, rfl, hown, hbel⟩ := hrel
    have hsz := hbel.size
    by_cases hks : k < s.size
    · have hlen := hexL_len (s.data.toList.take k)
      rw [List.length_take] at hlen
      have hnx := hexL_take s k hks
      have hb := s[k].toNat_lt
      obtain ⟨q, hq⟩ : ∃ q, s[k].toNat / 16 = q := ⟨_, rfl⟩
      obtain ⟨r, hr⟩ : ∃ r, s[k].toNat % 16 = r := ⟨_, rfl⟩
      have hq1 : ((s[k].toNat : Nat) : Int) / 16 = (q : Int) := by omega
      have hr1 : ((s[k].toNat : Nat) : Int) % 16 = (r : Int) := by omega
      have hr9 : ((s[k].toNat : Nat) : Int).tmod 16 = (r : Int) := by
        rw [← hr]
        rfl
      have hq2 : q < 16 := by omega
      have hr2 : r < 16 := by omega
      have hxq := hx_at q hq2
      have hxr := hx_at r hr2
      rw [hq, hr] at hnx
      obtain ⟨v', w', hrun, hown2, hbel2⟩ := run_two wr w.heap.size _ _ hown (hx q) (hx r) (by omega) hsz
      have hnx : Hid (hexL (s.data.toList.take (k + 1)) = hexL (s.data.toList.take k) ++ [hx q, hx r]) := hnx
      rw [← hnx.out] at hown2
      clear hq hr hlen hb
      go_wp2_with fail
      have hwq : IntKind.u8.wrap (q : Int) = (q : Int) := by rw [IntKind.wrap_u8]; omega
      have hwr : IntKind.u8.wrap (r : Int) = (r : Int) := by rw [IntKind.wrap_u8]; omega
      have hq3 : (q : Int) < 16 := by omega
      have hr3 : (r : Int) < 16 := by omega
      go_region_law (refine step_app_run rfl (.tmp 11) (.tmp 22) 34 rfl _ (.slice (some ⟨wr.heap.size, 0, none⟩) 2 2) (by simp [Act.eval]) (by simp [Act.eval]) hrun ?_)
      all_goals
        go_wp2
        go_roundw
        case rel => exact ⟨k + 1, by omega, by go_num, hown2, hbel.trans hbel2⟩
        case measure => simp [intOf]; omega
    · obtain rfl : k = s.size := by omega
      have hd : s.data.toList.length = s.size := rfl
      rw [List.take_of_length_le (by omega)] at hown
      have hconv := conv_own _ _ _ _ _ hown
      go_wp2
      go_ret
      exact ⟨rfl, hbel⟩
end Go.Proofs.YtfgphcleilpelaaDoor
