/-
  Joined:
  'append' of pages and of pairs to rows of the call's own; pages of the call's own, each in a row by itself.
  Contracts: pages anew: of the program, of the document's own, and of the statements.
-/
import Derived.Test.YtdmkmhjalcfchaaBase
import Derived.Test.YtdmkmhjalcfchaaPl
import Derived.Lib.SliceRun
namespace Go.Proofs.Ytdmkmhjalcfchaa
open Go.RowKit Num
set_option linter.unusedVariables false
set_option maxRecDepth 100000

theorem Try.infoPr : (Try.prog.info? 52).map (fun i => (i.zero, i.size, i.bytes)) = some (some (.agg #[.string ⟨#[]⟩, .string ⟨#[]⟩]), 2, 32) := by kernel_rfl
theorem Try.infoPg : (Try.prog.info? 22).map (fun i => (i.zero, i.size, i.bytes)) = some (some (.slice none 0 0), 1, 24) := by kernel_rfl
theorem lies_none {w : World} {B : Nat} {l : List Pr} (h : LiesPr w B none l) : l = [] := by
  cases l with
  | nil => rfl
  | cons x l =>
    obtain ⟨a, e, _⟩ := h 0 x rfl
    cases e
/-- 'append' of a page to a row of pairs of the call's own. -/
theorem run_app_pg (w : World) (ty : TypeId) (base : Nat) (v : Value) (q : List Pr) (hown : w.ownsRow base 52 2 v q.length (prCells q)) (bo : Option Addr) (c : Nat) (l : List Pr) {B : Nat} (hl : LiesPr w B bo l)
    (hlen : q.length + l.length ≤ 100000) (hbase : base ≤ w.heap.size) :
    ∃ v' w', (Builtin.append_ #[22, 22] ty #[v, .slice bo l.length c]).run Try.prog w = .ok v' w' ∧ w'.ownsRow base 52 2 v' (q ++ l).length (prCells (q ++ l)) ∧ w.grownBy w' v.ownBlock ∧ Near w v v' := by
  obtain ⟨i0, hi, hz0, hz1, hz2⟩ := info_parts Try.infoPr
  cases bo with
  | none =>
    obtain rfl := lies_none hl
    refine ⟨v, w, ?_, by simpa using hown, ⟨rfl, rfl, rfl, Nat.le_refl _, fun _ _ _ => rfl⟩, .inl rfl⟩
    rcases hown.2 with ⟨rfl, h0⟩ | ⟨g, cap, cur, rfl, _, _, hnc, _⟩
    · simp [Builtin.append_, run_underlying Try.underlying22, sizeOf, typeInfo, hi, Builtin.lenOf, Builtin.firstCells]
    · simp [Builtin.append_, run_underlying Try.underlying22, sizeOf, typeInfo, hi, Builtin.lenOf, Builtin.firstCells, hnc, storeCells]
  | some a =>
    obtain ⟨v', w', hr, h2, h3, _, h5⟩ := run_append_own_at (P := Try.prog) w base 22 ty 52 i0 _ 2 32 Try.underlying22 hi hz0 hz1 hz2 rfl (by decide) v _ _ hown a l.length c (prCells l) (prCells_len l) (lies_cells hl) (prCells_one l) (by unfold maxLen; omega) (by omega) hbase
    refine ⟨v', w', hr, by rw [List.length_append, prCells_append]; exact h2, h3, ?_⟩
    rcases h5 with h5 | h5
    · exact .inl h5
    · exact .inr ⟨_, h5, Nat.le_refl _⟩
theorem wpList_app_pg {ops : Array Oper} {rest : List Oper} {o : Oper} {a : Act} {Q : Exit → Act → World → Prop} (w : World) (hgd : o.guard = none) (s x : Operand)
    (ho : o.op = .call { callee := .builtin .append, args := #[s, x], argTypes := #[22, 22] }) (base : Nat) (v : Value) (q : List Pr) (hs : a.eval s = v) (hown : w.ownsRow base 52 2 v q.length (prCells q))
    (bo : Option Addr) (c : Nat) (l : List Pr) (hx : a.eval x = .slice bo l.length c) {B : Nat} (hl : LiesPr w B bo l) (hlen : q.length + l.length ≤ 100000) (hbase : base ≤ w.heap.size)
    (h : ∀ v' w', w'.ownsRow base 52 2 v' (q ++ l).length (prCells (q ++ l)) → w.grownBy w' v.ownBlock → Near w v v' → wpList Try.prog ops Q rest (a.put o.dst v') w') : wpList Try.prog ops Q (o :: rest) a w := by
  refine wpList_plain hgd fun K hK => ?_
  obtain ⟨v', w', hr, h2, h3, h4⟩ := run_app_pg w o.type base v q hown bo c l hl hlen hbase
  unfold Oper.wp execOp
  simp only [ho, resolve, invoke, builtin, Sem.run_bind, Sem.run_pure, Result.andThen_ok, List.map_toArray, List.map_cons, List.map_nil, hs, hx, hr]
  exact hK _ _ (h v' w' h2 h3 h4)
/-- .. and as a step of a statement whose order is drawn. -/
theorem step_app_pg {ops : Array Oper} {o : Oper} {a : Act} {w : World} {K : Act → World → Prop} {Q : Exit → Act → World → Prop} {E : Prop} (hgd : o.guard = none) (s x : Operand)
    (ho : o.op = .call { callee := .builtin .append, args := #[s, x], argTypes := #[22, 22] }) (base : Nat) (v : Value) (q : List Pr) (hs : a.eval s = v) (hown : w.ownsRow base 52 2 v q.length (prCells q))
    (bo : Option Addr) (c : Nat) (l : List Pr) (hx : a.eval x = .slice bo l.length c) {B : Nat} (hl : LiesPr w B bo l) (hlen : q.length + l.length ≤ 100000) (hbase : base ≤ w.heap.size)
    (h : ∀ v' w', w'.ownsRow base 52 2 v' (q ++ l).length (prCells (q ++ l)) → w.grownBy w' v.ownBlock → Near w v v' → K (a.put o.dst v') w') : if Region.wanted o (yielded ops a.tmps) = true then Oper.wp Try.prog o a w K Q else E := by
  have hw : Region.wanted o (yielded ops a.tmps) = true := by simp [Region.wanted, hgd]
  rw [if_pos hw]
  obtain ⟨v', w', hr, h2, h3, h4⟩ := run_app_pg w o.type base v q hown bo c l hl hlen hbase
  unfold Oper.wp execOp
  simp only [ho, resolve, invoke, builtin, Sem.run_bind, Sem.run_pure, Result.andThen_ok, List.map_toArray, List.map_cons, List.map_nil, hs, hx, hr]
  exact h v' w' h2 h3 h4
/-- An empty row that is made. -/
theorem own_empty (w : World) : (w.alloc (.cells #[] 52)).ownsRow w.heap.size 52 2 (.slice (some ⟨w.heap.size, 0, none⟩) 0 0) ([] : List Pr).length (prCells []) := World.ownsRow_made w #[] 0 (Nat.le_refl _) (Nat.zero_le _) (by simp)
theorem below_made {w w1 : World} {o : Obj} {n c : Nat} (h : (w.alloc o).grownBy w1 (Value.slice (some ⟨w.heap.size, 0, none⟩) n c).ownBlock) : Below w.heap.size w w1 :=
  ((Below.refl _ w).alloc (Nat.le_refl _) _).grown h (by simp) (by intro j hj; simp [Value.ownBlock] at hj; omega)
theorem own_one {w : World} {B e n : Nat} {v : Value} {l : List Pr} (h : w.ownsRow B e n v l.length (prCells l)) : v.oneCell' = true := by
  obtain ⟨ao, m, cap, rfl⟩ := own_shape h
  rfl
/-! Each page in a row by itself. -/
def Num.Apart (cs : List Value) : Prop := ∀ (i j : Nat) c d, cs[i]? = some c → cs[j]? = some d → i ≠ j → ∀ g, c.ownBlock = some g → d.ownBlock ≠ some g
def Num.PagesV (B : Nat) (w : World) (cs : List Value) (ps : Pages) : Prop := ∀ (i : Nat) c p, cs[i]? = some c → ps[i]? = some p → w.ownsRow B 52 2 c p.length (prCells p)
structure Num.OwnPg (B : Nat) (w : World) (v : Value) (cs : List Value) (ps : Pages) : Prop where
  len : cs.length = ps.length
  row : w.ownsRow B 22 1 v ps.length cs
  pages : PagesV B w cs ps
  apart : Apart cs
theorem ownPg_nil (B : Nat) (w : World) : OwnPg B w (.slice none 0 0) [] [] := ⟨rfl, World.ownsRow_nil _ _ _ _, fun i c p h => by simp at h, fun i j c d h => by simp at h⟩
theorem flat_one (cs : List Value) : (cs.map (fun c => [c])).flatten = cs := by
  induction cs with
  | nil => rfl
  | cons c cs ih =>
    rw [List.map_cons, List.flatten_cons, ih]
    rfl
theorem ownPg_ps {B : Nat} {w : World} {v : Value} {cs : List Value} {ps : Pages} (h : OwnPg B w v cs ps) : OwnPs B w v ps := by
  refine ⟨cs.map (fun c => [c]), by rw [List.length_map, h.len], ?_, by rw [flat_one]; exact h.row, ?_⟩
  · intro x hx
    obtain ⟨c, hc, rfl⟩ := List.mem_map.1 hx
    obtain ⟨i, hi⟩ := List.mem_iff_getElem?.1 hc
    have hil := (List.getElem?_eq_some_iff.1 hi).1
    refine ⟨rfl, fun u hu => ?_⟩
    rw [List.mem_singleton.1 hu]
    exact own_one (h.pages i c _ hi (List.getElem?_eq_getElem (by rw [← h.len]; exact hil)))
  · intro i x p hx hp
    rw [List.getElem?_map] at hx
    cases hc : cs[i]? with
    | none => rw [hc] at hx; cases hx
    | some c =>
      rw [hc] at hx
      cases hx
      exact ⟨c, rfl, h.pages i c p hc hp⟩
theorem ownPg_lies {B : Nat} {w : World} {v : Value} {cs : List Value} {ps : Pages} (h : OwnPg B w v cs ps) : ∃ ao cap, v = .slice ao ps.length cap ∧ LiesPg w w.heap.size ao ps := ownPs_lies (ownPg_ps h)
theorem ownPg_below {B : Nat} {w w' : World} {v : Value} {cs : List Value} {ps : Pages} (h : OwnPg B w v cs ps) (hb : Below w.heap.size w w') : OwnPg B w' v cs ps :=
  ⟨h.len, own_below h.row hb, fun i c p hc hp => own_below (h.pages i c p hc hp) hb, h.apart⟩
theorem ownPg_snoc {B : Nat} {w0 w w3 : World} {v3 : Value} {cs : List Value} {ps : Pages} {c : Value} {p : List Pr} (hcl : cs.length = ps.length) (hV : PagesV B w0 cs ps) (hap : Apart cs) (hc : w.ownsRow w0.heap.size 52 2 c p.length (prCells p)) (hb0 : Below w0.heap.size w0 w) (hB : B ≤ w0.heap.size)
    (hrow : w3.ownsRow B 22 1 v3 (ps.length + 1) (cs ++ [c])) (hst : Stay (fun _ => False) 22 w w3) : OwnPg B w3 v3 (cs ++ [c]) (ps ++ [p]) := by
  have hold : ∀ (i : Nat) d q, cs[i]? = some d → ps[i]? = some q → w3.ownsRow B 52 2 d q.length (prCells q) := fun i d q hd hq => own_stay (own_below (hV i d q hd hq) hb0) hst (by decide) (fun _ h => h)
  have hnew : w3.ownsRow B 52 2 c p.length (prCells p) := own_mono (own_stay hc hst (by decide) (fun _ h => h)) hB
  have hfar : ∀ (i : Nat) d, cs[i]? = some d → ∀ g, d.ownBlock = some g → c.ownBlock ≠ some g := by
    intro i d hd g hg he
    have hil := (List.getElem?_eq_some_iff.1 hd).1
    have h1 := ((hV i d _ hd (List.getElem?_eq_getElem (by rw [← hcl]; exact hil))).lt g hg).2
    have h2 := (hc.lt g he).1
    omega
  have hsplit : ∀ (i : Nat) d, (cs ++ [c])[i]? = some d → (i < cs.length ∧ cs[i]? = some d) ∨ (i = cs.length ∧ d = c) := by
    intro i d hd
    rcases Nat.lt_or_ge i cs.length with h | h
    · rw [List.getElem?_append_left h] at hd
      exact .inl ⟨h, hd⟩
    · rw [List.getElem?_append_right h] at hd
      have := (List.getElem?_eq_some_iff.1 hd).1
      have e0 : i - cs.length = 0 := by simpa using this
      rw [e0] at hd
      simp at hd
      exact .inr ⟨by omega, hd.symm⟩
  refine ⟨by simp [hcl], by simpa using hrow, ?_, ?_⟩
  · intro i d q hd hq
    rcases hsplit i d hd with ⟨h, hd⟩ | ⟨h, rfl⟩
    · rw [List.getElem?_append_left (by omega)] at hq
      exact hold i d q hd hq
    · rw [List.getElem?_append_right (by omega), h, hcl] at hq
      simp at hq
      subst hq
      exact hnew
  · intro i j d e hd he hij g hg
    rcases hsplit i d hd with ⟨h, hd1⟩ | ⟨h, h1⟩
    · rcases hsplit j e he with ⟨h', he1⟩ | ⟨h', h2⟩
      · exact hap i j d e hd1 he1 hij g hg
      · rw [h2]
        exact hfar i d hd1 g hg
    · rcases hsplit j e he with ⟨h', he1⟩ | ⟨h', h2⟩
      · rw [h1] at hg
        exact fun hx => hfar j e he1 g hx hg
      · omega
end Go.Proofs.Ytdmkmhjalcfchaa
namespace Go.Proofs.Ytdmkmhjalcfchaa
open Go.RowKit Num
set_option linter.unusedVariables false
set_option maxRecDepth 100000

theorem clone_any (bo : Option Addr) (c : Nat) (l : List Pr) (hne : l ≠ []) (hlen : l.length ≤ 5000) (w : World) (hl : LiesPr w w.heap.size bo l) :
    Calls Try.prog 91 #[.slice bo l.length c] w fun e w' => ∃ ao1 cap1, e = .returned (.slice ao1 l.length cap1) ∧ w'.ownsRow w.heap.size 52 2 (.slice ao1 l.length cap1) l.length (prCells l) ∧ Below w.heap.size w w' := by
  obtain ⟨a, rfl⟩ : ∃ a, bo = some a := by
    cases bo with
    | none => exact absurd (lies_none hl) hne
    | some a => exact ⟨a, rfl⟩
  have q22 : ∀ (w : World) (a : Option Addr) (n c n' c' : Nat), (binOp .eql 22 (.slice a n c) (.slice none n' c')).run Try.prog w = .ok (.bool a.isNone) w := fun w a n c n' c' => Lib.run_eql_slice_nil w _ _ a n c n' c' Try.underlying22
  go_enter Try.func91, Try.ntmps91
  go_wp2_with (first
    | (at_builtin; refine wpList_app_pg _ rfl _ _ rfl w.heap.size (.slice (some ⟨w.heap.size, 0, none⟩) 0 0) [] rfl (own_empty w) (some a) c l rfl (liesPr_next hl ((Below.refl _ w).alloc (Nat.le_refl _) _) (Nat.le_refl _)) (by simp; omega) (by simp) ?_; intro v1 w1 hown1 hgrow1 hnear1))
  rw [List.nil_append] at hown1
  obtain ⟨ao1, cap1, rfl, _, _⟩ := own_lies hown1
  go_ret
  exact ⟨_, _, rfl, hown1, below_made hgrow1⟩

set_option maxHeartbeats 1000000 in
theorem copied_any (ps : Pages) (ao : Option Addr) (cap : Nat) (h400 : ps.length ≤ 5000) (hp4 : ∀ p ∈ ps, 1 ≤ p.length ∧ p.length ≤ 8) (w : World) (hl : LiesPg w w.heap.size ao ps) :
    Calls Try.prog 75 #[.slice ao ps.length cap] w fun e w' => ∃ v cs, e = .returned v ∧ OwnPg w.heap.size w' v cs ps ∧ Below w.heap.size w w' := by
  go_enter Try.func75, Try.ntmps75
  go_wp2
  go_loopw [3, 8] (fun v i wr => ∃ (k : Nat) (cs : List Value), k ≤ ps.length ∧ i = .int .i64 (k : Int) ∧ OwnPg w.heap.size wr v cs (ps.take k) ∧ Below w.heap.size w wr) (fun _ i _ => ps.length - (intOf i).toNat)
  case atStart => exact ⟨0, [], by omega, rfl, ownPg_nil _ _, Below.refl _ _⟩
  case round =>
    obtain ⟨k, cs, hk, rfl, hown, hbel⟩ := hrel
    have hsz := hbel.size
    by_cases hkl : k < ps.length
    · have HP : Hid (ps[k]? = some ps[k]) := List.getElem?_eq_getElem hkl
      have hlen := hp4 ps[k] (List.getElem_mem hkl)
      obtain ⟨a, rfl, hblk, bo, c, c0, hl2, hcap⟩ := (liesPg_next hl hbel hsz) k ps[k] HP.out
      rw [Nat.mul_one] at c0
      generalize ps[k] = p at *
      obtain ⟨hcl, hrow, hV, hap⟩ := hown
      have htl : (ps.take k).length = k := by rw [List.length_take]; omega
      rw [htl] at hrow
      have hcall := clone_any bo c p (by rintro rfl; simp at hlen) (by omega) wr hl2
      go_wp2_with (first
        | (go_at_call 91; refine hcall.mono ?_; rintro e w1 ⟨ao1, cap1, rfl, hown1, hb1⟩)
        | (at_builtin; refine wpList_appX _ rfl _ _ 104 rfl 22 1 24 Try.underlying104 Try.infoPg w.heap.size _ k cs rfl ((own_below hrow hb1).alloc _) ⟨w1.heap.size, 0, none⟩ 1 [.slice ao1 p.length cap1] rfl rfl (by intro u hu; rw [List.mem_singleton.1 hu]; exact own_one hown1) (one_cell w1 _ _) ⟨by omega, by decide, by decide, rfl⟩ (by simp; have := hb1.size; omega) ?_; intro v3 w3 hown3 hbel3 hst3))
      go_roundw
      case rel =>
        have hs1 := hb1.size
        refine ⟨k + 1, cs ++ [.slice ao1 p.length cap1], by omega, by go_num, ?_, (hbel.trans (hb1.mono hsz)).trans (((Below.refl _ w1).alloc (by omega) _).trans hbel3)⟩
        rw [take_succ_at HP.out]
        exact ownPg_snoc hcl hV hap (hown1.alloc _) (hb1.trans ((Below.refl _ w1).alloc hs1 _)) hsz (by rw [htl]; exact hown3) hst3
      case measure => simp [intOf]; omega
    · obtain rfl : k = ps.length := by omega
      rw [List.take_length] at hown
      go_wp2
      go_ret
      exact ⟨_, _, rfl, hown, hbel⟩
end Go.Proofs.Ytdmkmhjalcfchaa
