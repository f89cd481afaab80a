/-
  Contracts: bytes or a text behind its head.
-/
import Derived.Test.YtgaidhalkianfaaVGet1
namespace Go.Proofs.Ytgaidhalkianfaa
open Go.RowKit Num
set_option linter.unusedVariables false

/-- What Get returns. -/
def Num.resV (r : Res) : Value := .tuple #[.agg #[.int .i64 r.k, .int .i64 r.n, .int .u64 (r.f : Int), .string (str r.s)], .int .i64 r.c, .int .i64 r.e]

theorem own_shape {w : World} {base : Nat} {v : Value} {n : Nat} {xs : List Value} (h : w.ownsRow base 5 1 v n xs) : ∃ ao cap, v = .slice ao n cap := by
  rcases h.2 with ⟨rfl, rfl⟩ | ⟨g, cap, _, rfl, _⟩
  · exact ⟨none, 0, rfl⟩
  · exact ⟨_, cap, rfl⟩
theorem own_len {w : World} {base : Nat} {v : Value} {n : Nat} {B : List UInt8} (h : w.ownsRow base 5 1 v n (cellsOf B)) : n = B.length := by
  have := h.1
  simp [cellsOf] at this
  omega
/-- The cells of a result in memory. -/
theorem box_free {w w' : World} {c0 c1 c2 c3 : Value} {t : TypeId} (h : Below (w.alloc (.cells #[c0, c1, c2, c3] t)).heap.size (w.alloc (.cells #[c0, c1, c2, c3] t)) w') :
    w'.frozen? ⟨w.heap.size, 0, none⟩ = false ∧ w'.frozen? ⟨w.heap.size, 1, none⟩ = false ∧ w'.frozen? ⟨w.heap.size, 2, none⟩ = false ∧ w'.frozen? ⟨w.heap.size, 3, none⟩ = false := by
  refine ⟨?_, ?_, ?_, ?_⟩ <;> (rw [h.frozen (by simp)]; simp)
theorem byte_ne (b c : UInt8) (x : Int) (hx : x = ((c.toNat : Nat) : Int)) (h : ¬ b = c) : ¬ ((b.toNat : Nat) : Int) = x := by
  intro g
  subst hx
  exact h (UInt8.toNat_inj.1 (by omega))

theorem below_set4 {w wr : World} (h : Below w.heap.size w wr) (a b c d : Value) :
    Below w.heap.size w ((((wr.setCell ⟨w.heap.size, 0, none⟩ a).setCell ⟨w.heap.size, 1, none⟩ b).setCell ⟨w.heap.size, 2, none⟩ c).setCell ⟨w.heap.size, 3, none⟩ d) :=
  (((h.setCell (Nat.le_refl _) a).setCell (Nat.le_refl _) b).setCell (Nat.le_refl _) c).setCell (Nat.le_refl _) d
theorem below_up {w w' w'' : World} {o : Obj} (h : Below (w.alloc o).heap.size (w.alloc o) w') {x : Obj} (h2 : Below (w.heap.size + 1) (w'.alloc x) w'') : Below (w.alloc o).heap.size (w.alloc o) w'' :=
  (h.alloc h.size x).trans (by simpa using h2)

theorem getText_any (kd : Int) (s : ByteArray) (h1 : 1 ≤ s.size) (hs : s.size ≤ 1000000) (w : World) :
    Calls Try.prog 43 #[.int .i64 kd, .string s] w fun e w' => e = .returned (resV (getText kd (tailL s))) ∧ Below w.heap.size w w' := by
  go_enter Try.func43, Try.ntmps43
  go_wp2
  go_loopw [7, 8] (fun v i wr => ∃ (k n : Nat) (B : List UInt8), k + 1 ≤ s.size ∧ n ≤ 41 ∧ i = .int .i64 ((k + 1 : Nat) : Int) ∧ Hid (ReadTo (tailL s) (tailL s) B k) ∧ wr.ownsRow (w.heap.size + 1) 5 1 v n (cellsOf B) ∧ Below (w.alloc (.cells #[.int .i64 0, .int .i64 0, .int .u64 0, .string ⟨#[]⟩] 39)).heap.size (w.alloc (.cells #[.int .i64 0, .int .i64 0, .int .u64 0, .string ⟨#[]⟩] 39)) wr) (fun _ i _ => s.size + 1 - (intOf i).toNat)
  case atStart => exact ⟨0, 0, [], by omega, by omega, rfl, start_tail s, World.ownsRow_nil _ _ _ _, Below.refl _ _⟩
  case round =>
    obtain ⟨k, n, B, hk, hn, rfl, HR, hown, hbel⟩ := hrel
    obtain ⟨q0, q1, q2, q3⟩ := box_cells hbel
    obtain ⟨z0, z1, z2, z3⟩ := box_free hbel
    have hnB : Hid (n = B.length) := own_len hown
    obtain ⟨ao, cap, rfl⟩ := own_shape hown
    have hsz : w.heap.size + 1 ≤ wr.heap.size := by have := hbel.size; simpa using this
    by_cases hks : k + 1 < s.size
    · by_cases hn40 : n ≤ 40
      · by_cases hb : s[k + 1] = 0
        · by_cases hks2 : k + 2 < s.size
          · by_cases hc : s[k + 2] = 255
            · have HR2 : Hid (ReadTo (tailL s) (tailL s) (B ++ [0]) (k + 2)) := zero_tail HR.out hks2 hb hc
              have hc1 : s[k + 1 + 1] = 255 := hc
              clear HR hnB hc
              go_wp2_with (first
                | (at_builtin; refine wpList_app _ rfl (.tmp 44) _ rfl (w.heap.size + 1) _ n _ rfl (World.ownsRow.alloc hown _) _ _ _ [0] rfl rfl (one_new _ _ _ _ rfl) (by omega) (by simp; omega) ?_; intro v3 w3 hown3 hbel3))
              go_roundw
              case rel => exact ⟨k + 2, n + 1, _, by omega, by omega, by go_num, HR2, hown3, below_up hbel hbel3⟩
              case measure => simp [intOf]; omega
            · have hci := byte_ne s[k + 1 + 1] 255 255 rfl hc
              by_cases hd : s[k + 2] = 1
              · have hres : Hid (getText kd (tailL s) = ⟨kd, 0, 0, B, ((k + 2 : Nat) : Int) + 1, 0⟩) := getText_some (end_tail HR.out hks2 hb hd) (by have := hnB.out; omega) kd
                have hconv := conv_own _ _ _ _ _ hown
                have hd1 : s[k + 1 + 1] = 1 := hd
                clear HR hnB hc hd
                go_wp2
                refine bodyPost_ret (v := .tuple #[.agg #[.int .i64 kd, .int .i64 0, .int .u64 0, .string (str B)], .int .i64 (((k + 2 : Nat) : Int) + 1), .int .i64 0]) (by simp [results, Try.results43, go_sem, q0, q1, q2, q3]; try omega) rfl ⟨by rw [hres.out]; rfl, ?_⟩
                exact below_set4 (below_box0 hbel) _ _ _ _
              · have hres : Hid (getText kd (tailL s) = bad) := getText_none (wrong_tail HR.out hks2 hb hd hc) kd
                have hdi := byte_ne s[k + 1 + 1] 1 1 rfl hd
                clear HR hnB hc hd
                go_wp2
                refine bodyPost_ret (v := .tuple #[.agg #[.int .i64 0, .int .i64 0, .int .u64 0, .string ⟨#[]⟩], .int .i64 0, .int .i64 3]) (by simp [results, Try.results43, go_sem, q0, q1, q2, q3]) rfl ⟨by rw [hres.out]; rfl, ?_⟩
                exact below_set4 (below_box0 hbel) _ _ _ _
          · have hres : Hid (getText kd (tailL s) = bad) := getText_none (last_tail HR.out hks hks2 hb) kd
            clear HR hnB
            go_wp2
            refine bodyPost_ret (v := .tuple #[.agg #[.int .i64 0, .int .i64 0, .int .u64 0, .string ⟨#[]⟩], .int .i64 0, .int .i64 3]) (by simp [results, Try.results43, go_sem, q0, q1, q2, q3]) rfl ⟨by rw [hres.out]; rfl, ?_⟩
            exact below_set4 (below_box0 hbel) _ _ _ _
        · have hbi := byte_ne s[k + 1] 0 0 rfl hb
          have HR2 : Hid (ReadTo (tailL s) (tailL s) (B ++ [s[k + 1]]) (k + 1)) := other_tail HR.out hks hb
          clear HR hnB hb
          go_wp2_with (first
            | (at_builtin; refine wpList_app _ rfl (.tmp 24) _ rfl (w.heap.size + 1) _ n _ rfl (World.ownsRow.alloc hown _) _ _ _ [s[k + 1]] rfl rfl (one_new _ _ _ _ rfl) (by omega) (by simp; omega) ?_; intro v3 w3 hown3 hbel3))
          go_roundw
          case rel => exact ⟨k + 1, n + 1, _, by omega, by omega, by go_num, HR2, hown3, below_up hbel hbel3⟩
          case measure => simp [intOf]; omega
      · have hres : Hid (getText kd (tailL s) = bad) := read_long HR.out (by have := hnB.out; omega) kd
        clear HR hnB
        go_wp2
        refine bodyPost_ret (v := .tuple #[.agg #[.int .i64 0, .int .i64 0, .int .u64 0, .string ⟨#[]⟩], .int .i64 0, .int .i64 3]) (by simp [results, Try.results43, go_sem, q0, q1, q2, q3]) rfl ⟨by rw [hres.out]; rfl, ?_⟩
        exact below_set4 (below_box0 hbel) _ _ _ _
    · have hres : Hid (getText kd (tailL s) = bad) := getText_none (over_tail HR.out hks) kd
      clear HR hnB
      go_wp2
      refine bodyPost_ret (v := .tuple #[.agg #[.int .i64 0, .int .i64 0, .int .u64 0, .string ⟨#[]⟩], .int .i64 0, .int .i64 3]) (by simp [results, Try.results43, go_sem, q0, q1, q2, q3]) rfl ⟨by rw [hres.out]; rfl, ?_⟩
      exact below_set4 (below_box0 hbel) _ _ _ _
end Go.Proofs.Ytgaidhalkianfaa
