/-
  The document's reader tells what the program's tells: statements (17.1). No program is named here.
-/
import Derived.Test.YtiajlhjjmlakmaaGreatDoorSqVc
namespace Go.Proofs.YtiajlhjjmlakmaaGreatDoor.Num
set_option linter.unusedSimpArgs false
set_option linter.unusedVariables false
set_option linter.unusedVariables false
set_option maxRecDepth 100000

local macro "vc" : tactic => `(tactic| simp [vocab])
theorem listN_pre {α : Type} (s : ByteArray) (rd : Rd α) (c : α) : ∀ (n : Nat) (acc : List α), (bnd (listN s rd n acc) fun cs => ret (c :: cs)) = listN s rd n (c :: acc)
  | 0, acc => rfl
  | n + 1, acc => by
    show bnd (opt s (bnd rd fun a => listN s rd n (acc ++ [a])) (ret acc)) (fun cs => ret (c :: cs)) = opt s (bnd rd fun a => listN s rd n (c :: acc ++ [a])) (ret (c :: acc))
    rw [bnd_opt, bnd_assoc]
    congr 1
    congr 1
    funext a
    exact listN_pre s rd c n (acc ++ [a])
theorem more_opt {α : Type} (s : ByteArray) (rd : Rd α) (c : α) (x : TkC) (q : List TkC) : (bnd (opt s (listR s rd) (ret [])) fun cs => ret (c :: cs)) (x :: q) = listN s rd (q.length + 1) [c] (x :: q) := by
  rw [bnd_opt]
  show opt s _ _ _ = opt s (bnd rd fun a => listN s rd q.length ([c] ++ [a])) (ret [c]) (x :: q)
  unfold opt
  cases isT s (x :: q) with
  | false => rfl
  | true =>
    rw [if_pos rfl, if_pos rfl]
    show bnd (fun r => bnd rd (fun a => listN s rd r.length [a]) r) (fun cs => ret (c :: cs)) q = bnd rd (fun a => listN s rd q.length ([c] ++ [a])) q
    have e : bnd (fun r => bnd rd (fun a => listN s rd r.length [a]) r) (fun cs => ret (c :: cs)) q = bnd (bnd rd fun a => listN s rd q.length [a]) (fun cs => ret (c :: cs)) q := rfl
    rw [e, bnd_assoc]
    congr 1
    funext a
    exact listN_pre s rd c q.length [a]
theorem ag_cols {l : List Tok} (hl : LexL l) (c : ByteArray × Int) : Ag l (bnd (opt ⟨#[44]⟩ (listR ⟨#[44]⟩ columnR) (ret [])) fun cs => ret (c :: cs)) (moreD l ⟨#[44]⟩ (columnD l) l.length [c]) := fun S hb hi => by
  have h := Ag.more hl (s := ⟨#[44]⟩) (by vc) (.column hl) .column (rem l S.i).length l.length [c] S hb hi (by rw [rem_len]; omega) (by omega)
  have e : (bnd (opt ⟨#[44]⟩ (listR ⟨#[44]⟩ columnR) (ret [])) fun cs => ret (c :: cs)) (rem l S.i) = listN ⟨#[44]⟩ columnR (rem l S.i).length [c] (rem l S.i) := by
    rw [rem_tok hi]
    exact more_opt _ _ _ _ _
  show AgE l S (Num.bnd (Num.opt ⟨#[44]⟩ (listR ⟨#[44]⟩ columnR) (Num.ret [])) (fun cs => Num.ret (c :: cs)) (rem l S.i)) _
  rw [e]
  exact h
theorem tableR_eq : tableR = bnd nameR fun t => bnd (takeR ⟨#[40]⟩) fun _ => bnd columnR fun c => bnd (takeR ⟨#[112, 114, 105, 109, 97, 114, 121]⟩) fun _ => bnd (takeR ⟨#[107, 101, 121]⟩) fun _ => bnd (bnd (opt ⟨#[44]⟩ (listR ⟨#[44]⟩ columnR) (ret [])) fun cs => ret (c :: cs)) fun cs => bnd (takeR ⟨#[41]⟩) fun _ => ret { Stm.zero with kind := 5, table := t, cols := cs.map (·.1), types := cs.map (·.2) } := by
  unfold tableR
  simp only [takes2, bnd_assoc, ret_bnd]
theorem ag_table {l : List Tok} (hl : LexL l) : Ag l tableR (bndD (nameD l) fun t => bndD (eatD l ⟨#[40]⟩) fun _ => bndD (columnD l) fun c => bndD (eatD l ⟨#[112, 114, 105, 109, 97, 114, 121]⟩) fun _ => bndD (eatD l ⟨#[107, 101, 121]⟩) fun _ => bndD (moreD l ⟨#[44]⟩ (columnD l) l.length [c]) fun cs => bndD (eatD l ⟨#[41]⟩) fun _ => bndD (mostD cs.length) fun _ => retD { Stm.zero with kind := 5, table := t, cols := cs.map (·.1), types := cs.map (·.2) }) := by
  rw [tableR_eq]
  refine .bnd (.name hl) (fun _ => .bnd .eat fun _ => .bnd .column fun _ => .bnd .eat fun _ => .bnd .eat fun _ => .bnd (.more _ _) fun _ => .bnd .eat fun _ => .bnd .many fun _ => .ret _) fun t =>
    .bnd (.eat hl (by vc)) (fun _ => .bnd .column fun _ => .bnd .eat fun _ => .bnd .eat fun _ => .bnd (.more _ _) fun _ => .bnd .eat fun _ => .bnd .many fun _ => .ret _) fun _ =>
    .bnd (.column hl) (fun _ => .bnd .eat fun _ => .bnd .eat fun _ => .bnd (.more _ _) fun _ => .bnd .eat fun _ => .bnd .many fun _ => .ret _) fun c =>
    .bnd (.eat hl (by vc)) (fun _ => .bnd .eat fun _ => .bnd (.more _ _) fun _ => .bnd .eat fun _ => .bnd .many fun _ => .ret _) fun _ =>
    .bnd (.eat hl (by vc)) (fun _ => .bnd (.more _ _) fun _ => .bnd .eat fun _ => .bnd .many fun _ => .ret _) fun _ => ?_
  refine .bnd (ag_cols hl c) (fun _ => .bnd .eat fun _ => .bnd .many fun _ => .ret _) fun cs => ?_
  exact .many (b := fun x : Stm => decide (8 < cs.length)) (d := bndD (eatD l ⟨#[41]⟩) fun _ => retD { Stm.zero with kind := 5, table := t, cols := cs.map (·.1), types := cs.map (·.2) }) (.bnd (.eat hl (by vc)) (fun _ => .ret _) fun _ => .ret _)
theorem ag_index {l : List Tok} (hl : LexL l) (u : Bool) : Ag l (addIndexR u) (indexD l u) := by
  have e : addIndexR u = bnd (takeR ⟨#[105, 110, 100, 101, 120]⟩) fun _ => bnd nameR fun n => bnd (takeR ⟨#[111, 110]⟩) fun _ => bnd nameR fun t => bnd (rowR nameR) fun cs => ret { Stm.zero with kind := 6, name := n, table := t, uniq := u, cols := cs } := by
    unfold addIndexR indexR
    simp only [bnd_assoc, ret_bnd]
  rw [e]
  exact .bnd (.eat hl (by vc)) (fun _ => .bnd .name fun _ => .bnd .eat fun _ => .bnd .name fun _ => .bnd .names fun _ => .ret _) fun _ => .bnd (.name hl) (fun _ => .bnd .eat fun _ => .bnd .name fun _ => .bnd .names fun _ => .ret _) fun _ => .bnd (.eat hl (by vc)) (fun _ => .bnd .name fun _ => .bnd .names fun _ => .ret _) fun _ => .bnd (.name hl) (fun _ => .bnd .names fun _ => .ret _) fun _ => .bnd (.names hl) (fun _ => .ret _) fun _ => .ret _
theorem ag_create {l : List Tok} (hl : LexL l) : Ag l createR (optD l ⟨#[116, 97, 98, 108, 101]⟩ (tableD l) (optD l ⟨#[117, 110, 105, 113, 117, 101]⟩ (bndD (eatD l ⟨#[117, 110, 105, 113, 117, 101]⟩) fun _ => indexD l true) (indexD l false))) :=
  .opt hl (by vc) de_eat (ag_table hl) (.opt hl (by vc) de_eat (ag_index hl true) (ag_index hl false))
theorem alterR_eq : alterR = bnd (takeR ⟨#[116, 97, 98, 108, 101]⟩) fun _ => bnd nameR fun t => opt ⟨#[97, 100, 100]⟩
    (bnd (takeR ⟨#[99, 111, 108, 117, 109, 110]⟩) fun _ => bnd nameR fun n => bnd typeR fun k => opt ⟨#[100, 101, 102, 97, 117, 108, 116]⟩ (bnd valueR fun v => ret { Stm.zero with kind := 8, table := t, name := n, type := k, vals := [v] }) (ret { Stm.zero with kind := 8, table := t, name := n, type := k, vals := [] }))
    (opt ⟨#[100, 114, 111, 112]⟩ (bnd (takeR ⟨#[99, 111, 108, 117, 109, 110]⟩) fun _ => bnd nameR fun n => ret { Stm.zero with kind := 9, table := t, name := n })
    (bnd (takeR ⟨#[97, 108, 116, 101, 114]⟩) fun _ => bnd (takeR ⟨#[99, 111, 108, 117, 109, 110]⟩) fun _ => bnd nameR fun n => opt ⟨#[100, 114, 111, 112]⟩ (bnd (takeR ⟨#[110, 111, 116]⟩) fun _ => bnd (takeR ⟨#[110, 117, 108, 108]⟩) fun _ => ret { Stm.zero with kind := 11, table := t, name := n }) (bnd (takeR ⟨#[115, 101, 116]⟩) fun _ => bnd (takeR ⟨#[110, 111, 116]⟩) fun _ => bnd (takeR ⟨#[110, 117, 108, 108]⟩) fun _ => ret { Stm.zero with kind := 10, table := t, name := n }))) := by
  have hn : ∀ F : Int → Rd Stm, bnd nullR F = opt ⟨#[100, 114, 111, 112]⟩ (bnd (takeR ⟨#[110, 111, 116]⟩) fun _ => bnd (takeR ⟨#[110, 117, 108, 108]⟩) fun _ => F 11) (bnd (takeR ⟨#[115, 101, 116]⟩) fun _ => bnd (takeR ⟨#[110, 111, 116]⟩) fun _ => bnd (takeR ⟨#[110, 117, 108, 108]⟩) fun _ => F 10) := fun F => by
    unfold nullR
    rw [bnd_assoc, bnd_opt, bnd_assoc, take_opt ⟨#[100, 114, 111, 112]⟩, opt_swap (s := ⟨#[115, 101, 116]⟩) (t := ⟨#[100, 114, 111, 112]⟩) (by simp), take_opt ⟨#[115, 101, 116]⟩]
    simp only [ret_bnd, takes2, bnd_assoc]
  unfold alterR addColumnR dropColumnR
  simp only [takes2, bnd_assoc, ret_bnd, bnd_opt, hn]
def alterE (l : List Tok) : Dr Stm := bndD (eatD l ⟨#[116, 97, 98, 108, 101]⟩) fun _ => bndD (nameD l) fun t =>
  optD l ⟨#[97, 100, 100]⟩ (bndD (eatD l ⟨#[97, 100, 100]⟩) fun _ => bndD (eatD l ⟨#[99, 111, 108, 117, 109, 110]⟩) fun _ => bndD (nameD l) fun n => bndD (kindD l) fun k =>
    optD l ⟨#[100, 101, 102, 97, 117, 108, 116]⟩ (bndD (eatD l ⟨#[100, 101, 102, 97, 117, 108, 116]⟩) fun _ => bndD (valueD l) fun v => retD { Stm.zero with kind := 8, table := t, name := n, type := k, vals := [v] }) (retD { Stm.zero with kind := 8, table := t, name := n, type := k, vals := [] }))
  (optD l ⟨#[100, 114, 111, 112]⟩ (bndD (eatD l ⟨#[100, 114, 111, 112]⟩) fun _ => bndD (eatD l ⟨#[99, 111, 108, 117, 109, 110]⟩) fun _ => bndD (nameD l) fun n => retD { Stm.zero with kind := 9, table := t, name := n })
  (bndD (eatD l ⟨#[97, 108, 116, 101, 114]⟩) fun _ => bndD (eatD l ⟨#[99, 111, 108, 117, 109, 110]⟩) fun _ => bndD (nameD l) fun n => optD l ⟨#[100, 114, 111, 112]⟩
    (bndD (eatD l ⟨#[100, 114, 111, 112]⟩) fun _ => bndD (eatD l ⟨#[110, 111, 116]⟩) fun _ => bndD (eatD l ⟨#[110, 117, 108, 108]⟩) fun _ => retD { Stm.zero with kind := 11, table := t, name := n })
    (bndD (eatD l ⟨#[115, 101, 116]⟩) fun _ => bndD (eatD l ⟨#[110, 111, 116]⟩) fun _ => bndD (eatD l ⟨#[110, 117, 108, 108]⟩) fun _ => retD { Stm.zero with kind := 10, table := t, name := n })))
theorem alterD_eq (l : List Tok) : alterD l = bndD (eatD l ⟨#[97, 108, 116, 101, 114]⟩) fun _ => alterE l := rfl
theorem ag_alter {l : List Tok} (hl : LexL l) : Ag l alterR (alterE l) := by
  rw [alterR_eq]
  exact .bnd (.eat hl (by vc)) (fun _ => .bnd .name fun _ => .opt (.opt (.bnd .eat fun _ => .bnd .eat fun _ => .bnd .name fun _ => .opt (.bnd .eat fun _ => .bnd .eat fun _ => .bnd .eat fun _ => .ret _)))) fun _ =>
    .bnd (.name hl) (fun _ => .opt (.opt (.bnd .eat fun _ => .bnd .eat fun _ => .bnd .name fun _ => .opt (.bnd .eat fun _ => .bnd .eat fun _ => .bnd .eat fun _ => .ret _)))) fun t =>
    .opt hl (by vc) de_eat (.bnd (.eat hl (by vc)) (fun _ => .bnd .name fun _ => .bnd .kind fun _ => .opt (.ret _)) fun _ => .bnd (.name hl) (fun _ => .bnd .kind fun _ => .opt (.ret _)) fun n => .bnd (.kind hl) (fun _ => .opt (.ret _)) fun k => .opt hl (by vc) de_eat (.bnd (.value hl) (fun _ => .ret _) fun v => .ret _) (.ret _))
    (.opt hl (by vc) de_eat (.bnd (.eat hl (by vc)) (fun _ => .bnd .name fun _ => .ret _) fun _ => .bnd (.name hl) (fun _ => .ret _) fun n => .ret _)
    (.bnd (.eat hl (by vc)) (fun _ => .bnd .eat fun _ => .bnd .name fun _ => .opt (.bnd .eat fun _ => .bnd .eat fun _ => .bnd .eat fun _ => .ret _)) fun _ => .bnd (.eat hl (by vc)) (fun _ => .bnd .name fun _ => .opt (.bnd .eat fun _ => .bnd .eat fun _ => .bnd .eat fun _ => .ret _)) fun _ => .bnd (.name hl) (fun _ => .opt (.bnd .eat fun _ => .bnd .eat fun _ => .bnd .eat fun _ => .ret _)) fun n =>
      .opt hl (by vc) de_eat (.bnd (.eat hl (by vc)) (fun _ => .bnd .eat fun _ => .ret _) fun _ => .bnd (.eat hl (by vc)) (fun _ => .ret _) fun _ => .ret _)
      (.bnd (.eat hl (by vc)) (fun _ => .bnd .eat fun _ => .bnd .eat fun _ => .ret _) fun _ => .bnd (.eat hl (by vc)) (fun _ => .bnd .eat fun _ => .ret _) fun _ => .bnd (.eat hl (by vc)) (fun _ => .ret _) fun _ => .ret _)))
theorem ag_vals {l : List Tok} (hl : LexL l) {f : List Val → Stm} : Ag l (bnd (rowR valueR) fun vs => ret (f vs)) (bndD (eatD l ⟨#[40]⟩) fun _ => bndD (valueD l) fun v => bndD (moreD l ⟨#[44]⟩ (valueD l) l.length [v]) fun vs => bndD (eatD l ⟨#[41]⟩) fun _ => bndD (mostD vs.length) fun _ => retD (f vs)) := by
  have e : (bndD (eatD l ⟨#[40]⟩) fun _ => bndD (valueD l) fun v => bndD (moreD l ⟨#[44]⟩ (valueD l) l.length [v]) fun vs => bndD (eatD l ⟨#[41]⟩) fun _ => bndD (mostD vs.length) fun _ => retD (f vs)) = bndD (bndD (bndD (eatD l ⟨#[40]⟩) fun _ => bndD (valueD l) fun v => bndD (moreD l ⟨#[44]⟩ (valueD l) l.length [v]) fun vs => bndD (eatD l ⟨#[41]⟩) fun _ => retD vs) fun x => bndD (fun S => ((), S.many (decide (8 < x.length)))) fun _ => retD x) fun vs => retD (f vs) := rfl
  rw [e]
  exact .bnd (.many (b := fun ns : List Val => decide (8 < ns.length)) (.row hl (.value hl) .value)) (fun _ => .ret _) fun _ => .ret _
theorem ag_insert {l : List Tok} (hl : LexL l) : Ag l insertR (bndD (eatD l ⟨#[105, 110, 116, 111]⟩) fun _ => bndD (nameD l) fun t => bndD (namesD l) fun cs => bndD (eatD l ⟨#[118, 97, 108, 117, 101, 115]⟩) fun _ => bndD (eatD l ⟨#[40]⟩) fun _ => bndD (valueD l) fun v => bndD (moreD l ⟨#[44]⟩ (valueD l) l.length [v]) fun vs => bndD (eatD l ⟨#[41]⟩) fun _ => bndD (mostD vs.length) fun _ => retD { Stm.zero with kind := 1, table := t, cols := cs, vals := vs }) :=
  .bnd (.eat hl (by vc)) (fun _ => .bnd .name fun _ => .bnd .names fun _ => .bnd .eat fun _ => .bnd .eat fun _ => .bnd .value fun _ => .bnd (.more _ _) fun _ => .bnd .eat fun _ => .bnd .many fun _ => .ret _) fun _ =>
  .bnd (.name hl) (fun _ => .bnd .names fun _ => .bnd .eat fun _ => .bnd .eat fun _ => .bnd .value fun _ => .bnd (.more _ _) fun _ => .bnd .eat fun _ => .bnd .many fun _ => .ret _) fun t =>
  .bnd (.names hl) (fun _ => .bnd .eat fun _ => .bnd .eat fun _ => .bnd .value fun _ => .bnd (.more _ _) fun _ => .bnd .eat fun _ => .bnd .many fun _ => .ret _) fun cs =>
  .bnd (.eat hl (by vc)) (fun _ => .bnd .eat fun _ => .bnd .value fun _ => .bnd (.more _ _) fun _ => .bnd .eat fun _ => .bnd .many fun _ => .ret _) fun _ => ag_vals hl
theorem ag_update {l : List Tok} (hl : LexL l) : Ag l updateR (bndD (nameD l) fun t => bndD (eatD l ⟨#[115, 101, 116]⟩) fun _ => bndD (setsD l) fun ss => bndD (whereD l) fun cs => retD { Stm.zero with kind := 2, table := t, sets := ss, conds := cs }) :=
  .bnd (.name hl) (fun _ => .bnd .eat fun _ => .bnd .sets fun _ => .bnd .wher fun _ => .ret _) fun t => .bnd (.eat hl (by vc)) (fun _ => .bnd .sets fun _ => .bnd .wher fun _ => .ret _) fun _ => .bnd (.sets hl) (fun _ => .bnd .wher fun _ => .ret _) fun _ => .bnd (.wher hl) (fun _ => .ret _) fun _ => .ret _
theorem ag_delete {l : List Tok} (hl : LexL l) : Ag l deleteR (bndD (eatD l ⟨#[102, 114, 111, 109]⟩) fun _ => bndD (nameD l) fun t => bndD (whereD l) fun cs => retD { Stm.zero with kind := 3, table := t, conds := cs }) :=
  .bnd (.eat hl (by vc)) (fun _ => .bnd .name fun _ => .bnd .wher fun _ => .ret _) fun _ => .bnd (.name hl) (fun _ => .bnd .wher fun _ => .ret _) fun _ => .bnd (.wher hl) (fun _ => .ret _) fun _ => .ret _
theorem ag_select {l : List Tok} (hl : LexL l) : Ag l (bnd (takeR ⟨#[115, 101, 108, 101, 99, 116]⟩) fun _ => selectR) (selectD l) := by
  have e : selectR = opt ⟨#[42]⟩ (bnd (takeR ⟨#[102, 114, 111, 109]⟩) fun _ => bnd nameR fun t => bnd whereR fun cs => ret { Stm.zero with kind := 4, table := t, cols := [], conds := cs }) (bnd (listR ⟨#[44]⟩ nameR) fun ns => bnd (takeR ⟨#[102, 114, 111, 109]⟩) fun _ => bnd nameR fun t => bnd whereR fun cs => ret { Stm.zero with kind := 4, table := t, cols := ns, conds := cs }) := by
    unfold selectR
    rw [bnd_opt, ret_bnd]
  have e2 : selectD l = bndD (eatD l ⟨#[115, 101, 108, 101, 99, 116]⟩) fun _ => optD l ⟨#[42]⟩ (bndD (eatD l ⟨#[42]⟩) fun _ => bndD (eatD l ⟨#[102, 114, 111, 109]⟩) fun _ => bndD (nameD l) fun t => bndD (whereD l) fun cs => retD { Stm.zero with kind := 4, table := t, cols := [], conds := cs })
      (bndD (bndD (bndD (nameD l) fun a => moreD l ⟨#[44]⟩ (nameD l) l.length [a]) fun x => bndD (fun S => ((), S.many (decide (8 < x.length)))) fun _ => retD x) fun ns => bndD (eatD l ⟨#[102, 114, 111, 109]⟩) fun _ => bndD (nameD l) fun t => bndD (whereD l) fun cs => retD { Stm.zero with kind := 4, table := t, cols := ns, conds := cs }) := rfl
  rw [e, e2]
  exact .bnd (.eat hl (by vc)) (fun _ => .opt (.bnd (.bnd (.bnd .name fun _ => .more _ _) fun _ => .bnd .many fun _ => .ret _) fun _ => .bnd .eat fun _ => .bnd .name fun _ => .bnd .wher fun _ => .ret _)) fun _ =>
    .opt hl (by vc) de_eat (.bnd (.eat hl (by vc)) (fun _ => .bnd .name fun _ => .bnd .wher fun _ => .ret _) fun _ => .bnd (.name hl) (fun _ => .bnd .wher fun _ => .ret _) fun _ => .bnd (.wher hl) (fun _ => .ret _) fun _ => .ret _)
    (.bnd (.many (b := fun ns : List ByteArray => decide (8 < ns.length)) (.list hl (by vc) (.name hl) .name)) (fun _ => .bnd .eat fun _ => .bnd .name fun _ => .bnd .wher fun _ => .ret _) fun _ => .bnd (.eat hl (by vc)) (fun _ => .bnd .name fun _ => .bnd .wher fun _ => .ret _) fun _ => .bnd (.name hl) (fun _ => .bnd .wher fun _ => .ret _) fun _ => .bnd (.wher hl) (fun _ => .ret _) fun _ => .ret _)
theorem ag_drop {l : List Tok} (hl : LexL l) : Ag l dropIndexR (bndD (eatD l ⟨#[105, 110, 100, 101, 120]⟩) fun _ => bndD (nameD l) fun n => bndD (eatD l ⟨#[111, 110]⟩) fun _ => bndD (nameD l) fun t => retD { Stm.zero with kind := 7, name := n, table := t }) := by
  have e : dropIndexR = bnd (takeR ⟨#[105, 110, 100, 101, 120]⟩) fun _ => bnd nameR fun n => bnd (takeR ⟨#[111, 110]⟩) fun _ => bnd nameR fun t => ret { Stm.zero with kind := 7, name := n, table := t } := by
    unfold dropIndexR indexR
    simp only [bnd_assoc, ret_bnd]
  rw [e]
  exact .bnd (.eat hl (by vc)) (fun _ => .bnd .name fun _ => .bnd .eat fun _ => .bnd .name fun _ => .ret _) fun _ => .bnd (.name hl) (fun _ => .bnd .eat fun _ => .bnd .name fun _ => .ret _) fun _ => .bnd (.eat hl (by vc)) (fun _ => .bnd .name fun _ => .ret _) fun _ => .bnd (.name hl) (fun _ => .ret _) fun _ => .ret _
theorem stmtR_eq : stmtR = opt ⟨#[99, 114, 101, 97, 116, 101]⟩ createR (opt ⟨#[100, 114, 111, 112]⟩ dropIndexR (opt ⟨#[97, 108, 116, 101, 114]⟩ alterR (opt ⟨#[105, 110, 115, 101, 114, 116]⟩ insertR (opt ⟨#[117, 112, 100, 97, 116, 101]⟩ updateR (opt ⟨#[100, 101, 108, 101, 116, 101]⟩ deleteR (bnd (takeR ⟨#[115, 101, 108, 101, 99, 116]⟩) fun _ => selectR)))))) := by
  unfold stmtR
  rw [take_opt ⟨#[97, 108, 116, 101, 114]⟩, take_opt ⟨#[115, 101, 108, 101, 99, 116]⟩]
  rw [opt_swap (s := ⟨#[115, 101, 108, 101, 99, 116]⟩) (t := ⟨#[99, 114, 101, 97, 116, 101]⟩) (by simp), opt_swap (s := ⟨#[100, 101, 108, 101, 116, 101]⟩) (t := ⟨#[99, 114, 101, 97, 116, 101]⟩) (by simp), opt_swap (s := ⟨#[117, 112, 100, 97, 116, 101]⟩) (t := ⟨#[99, 114, 101, 97, 116, 101]⟩) (by simp), opt_swap (s := ⟨#[105, 110, 115, 101, 114, 116]⟩) (t := ⟨#[99, 114, 101, 97, 116, 101]⟩) (by simp)]
  rw [opt_swap (s := ⟨#[115, 101, 108, 101, 99, 116]⟩) (t := ⟨#[100, 114, 111, 112]⟩) (by simp), opt_swap (s := ⟨#[100, 101, 108, 101, 116, 101]⟩) (t := ⟨#[100, 114, 111, 112]⟩) (by simp), opt_swap (s := ⟨#[117, 112, 100, 97, 116, 101]⟩) (t := ⟨#[100, 114, 111, 112]⟩) (by simp), opt_swap (s := ⟨#[105, 110, 115, 101, 114, 116]⟩) (t := ⟨#[100, 114, 111, 112]⟩) (by simp)]
  rw [opt_swap (s := ⟨#[115, 101, 108, 101, 99, 116]⟩) (t := ⟨#[97, 108, 116, 101, 114]⟩) (by simp), opt_swap (s := ⟨#[100, 101, 108, 101, 116, 101]⟩) (t := ⟨#[97, 108, 116, 101, 114]⟩) (by simp), opt_swap (s := ⟨#[117, 112, 100, 97, 116, 101]⟩) (t := ⟨#[97, 108, 116, 101, 114]⟩) (by simp), opt_swap (s := ⟨#[105, 110, 115, 101, 114, 116]⟩) (t := ⟨#[97, 108, 116, 101, 114]⟩) (by simp)]
end Go.Proofs.YtiajlhjjmlakmaaGreatDoor.Num
