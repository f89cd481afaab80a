/-
  Commands, as records of numbers, texts and lists: which may be (13.1), their bytes (13.2), reading them (13.3), and that what was written is read again (13.4). No program is named here.
-/
import Derived.Test.YtbhaahkjglfjmaaDRdM
namespace Go.Proofs.Ytbhaahkjglfjmaa.Num

/-- A range. -/
structure Rng where
  lo : ByteArray
  hi : ByteArray
/-- A write. -/
structure Wrt where
  key : ByteArray
  val : ByteArray
  del : Bool
/-- A command. -/
structure Cmd where
  kind : Int
  client : Int
  seq : Int
  snap : Int
  keys : List ByteArray
  rngs : List Rng
  wrts : List Wrt
  dead : Int
  aft : Int
  held : Int
  text : ByteArray
  code : Int
  rows : List (List Val)

/-! The bytes. -/
def lstB {α : Type} (f : α → List UInt8) (l : List α) : List UInt8 := num8 (l.length : Int) ++ l.flatMap f
def rngB (x : Rng) : List UInt8 := txtB x.lo ++ txtB x.hi
def wrtB (x : Wrt) : List UInt8 := txtB x.key ++ (txtB x.val ++ num8 (if x.del then 1 else 0))
def rowB' (l : List Val) : List UInt8 := lstB valB l
def cmdB (c : Cmd) : List UInt8 := num8 c.kind ++ (num8 c.client ++ (num8 c.seq ++ (num8 c.snap ++ (lstB txtB c.keys ++ (lstB rngB c.rngs ++ (lstB wrtB c.wrts ++ (num8 c.dead ++ (num8 c.aft ++ (num8 c.held ++ (txtB c.text ++ (num8 c.code ++ lstB rowB' c.rows)))))))))))

/-! Which may be. -/
/-- Is a text below another one, or the same? -/
def leqT (a b : ByteArray) : Bool := Op.bytesLess a.toList b.toList || a.toList == b.toList
def TimeC (n : Int) : Prop := 0 ≤ n ∧ n ≤ 1099511627776
def KeyAt (l : List ByteArray) (i : Nat) : Prop := ∀ x, l[i]? = some x → ¬ 1000 < (x.size : Int) ∧ ∀ j y, i = j + 1 → l[j]? = some y → leqT x y = false
def Rises (l : List ByteArray) : Prop := ∀ i, i < l.length → KeyAt l i
def RngOk (x : Rng) : Prop := ¬ 1000 < (x.lo.size : Int) ∧ ¬ 1000 < (x.hi.size : Int)
def WrtOk (x : Wrt) : Prop := ¬ 10000 < (x.val.size : Int) ∧ (x.del = true → x.val.toList.isEmpty = true)
def RowOk' (l : List Val) : Prop := ¬ 8 < (l.length : Int) ∧ ∀ v ∈ l, v.may = true
structure NumsOk (c : Cmd) : Prop where
  seq : TimeC c.seq
  snap : TimeC c.snap
  dead : TimeC c.dead
  aft : TimeC c.aft
  held : TimeC c.held
  kind : 0 ≤ c.kind ∧ c.kind ≤ 5
  client : 0 ≤ c.client ∧ c.client ≤ 100
  code : 0 ≤ c.code ∧ c.code ≤ 21
def KeysOk' (l : List ByteArray) : Prop := ¬ 200 < (l.length : Int) ∧ Rises l
def RngsOk (l : List Rng) : Prop := ¬ 50 < (l.length : Int) ∧ ∀ x ∈ l, RngOk x
def WrtsOk (l : List Wrt) : Prop := ¬ 200 < (l.length : Int) ∧ (∀ x ∈ l, WrtOk x) ∧ KeysOk' (l.map Wrt.key)
def RowsOk (l : List (List Val)) : Prop := ¬ 200 < (l.length : Int) ∧ ∀ x ∈ l, RowOk' x
structure CmdOk (c : Cmd) : Prop where
  nums : NumsOk c
  text : (c.text.size : Int) ≤ 1000
  keys : KeysOk' c.keys
  rngs : RngsOk c.rngs
  wrts : WrtsOk c.wrts
  rows : RowsOk c.rows
/-- The values of a command that came in, or was read, are values. -/
def CmdIn (c : Cmd) : Prop := ∀ l ∈ c.rows, ∀ v ∈ l, v.ok

/-! Reading. -/
abbrev maxN : Nat := 18446744073709551616
def rdRng : Rd Rng := fun l => (rdTxt l).bind fun a => (rdTxt a.2).bind fun b => some (⟨a.1, b.1⟩, b.2)
def rdWrt : Rd Wrt := fun l => (rdTxt l).bind fun a => (rdTxt a.2).bind fun b => (rdBit b.2).bind fun c => some (⟨a.1, b.1, c.1⟩, c.2)
def rdLst {α : Type} (rd : Rd α) : Rd (List α) := fun l => (rdNat l).bind fun q => rdMany rd q.1 q.2
def rdRow : Rd (List Val) := rdLst rdVal
def rdCmd : Rd Cmd := fun l => (rdInt l).bind fun a => (rdInt a.2).bind fun b => (rdInt b.2).bind fun c => (rdInt c.2).bind fun d => (rdLst rdTxt d.2).bind fun e => (rdLst rdRng e.2).bind fun f => (rdLst rdWrt f.2).bind fun g => (rdInt g.2).bind fun h => (rdInt h.2).bind fun i => (rdInt i.2).bind fun j => (rdTxt j.2).bind fun k => (rdInt k.2).bind fun m => (rdLst rdRow m.2).bind fun n =>
  some (⟨a.1, b.1, c.1, d.1, e.1, f.1, g.1, h.1, i.1, j.1, k.1, m.1, n.1⟩, n.2)
theorem rdInt_map (l : List UInt8) : rdInt l = (rdNat l).map fun q => (sgn q.1, q.2) := by
  unfold rdInt rdNat
  split <;> rfl
theorem rdRng_fwd (x : Rng) (h : x.lo.size < maxN ∧ x.hi.size < maxN) (r : List UInt8) : rdRng (rngB x ++ r) = some (x, r) := by
  unfold rdRng rngB
  rw [List.append_assoc, rdTxt_fwd x.lo h.1]
  simp only [Option.bind_some]
  rw [rdTxt_fwd x.hi h.2]
  rfl
theorem rdWrt_fwd (x : Wrt) (h : x.key.size < maxN ∧ x.val.size < maxN) (r : List UInt8) : rdWrt (wrtB x ++ r) = some (x, r) := by
  unfold rdWrt wrtB
  rw [List.append_assoc, rdTxt_fwd x.key h.1]
  simp only [Option.bind_some]
  rw [List.append_assoc, rdTxt_fwd x.val h.2]
  simp only [Option.bind_some]
  rw [rdBit_fwd]
  rfl
theorem rdLst_fwd {α : Type} {rd : Rd α} {f : α → List UInt8} (l : List α) (hm : l.length < maxN) (h : ∀ x ∈ l, ∀ r, rd (f x ++ r) = some (x, r)) (r : List UInt8) : rdLst rd (lstB f l ++ r) = some (l, r) := by
  unfold rdLst lstB
  rw [num8_nat l.length hm, List.append_assoc, rdNat_fwd _ hm]
  simp only [Option.bind_some]
  exact rdMany_fwd l h r
theorem rise_size {l : List ByteArray} (h : Rises l) : ∀ x ∈ l, x.size ≤ 1000 := by
  intro x hx
  obtain ⟨i, hi, rfl⟩ := List.getElem_of_mem hx
  have := (h i hi _ (List.getElem?_eq_getElem hi)).1
  omega
/-- What may be is read again. -/
theorem rdCmd_fwd (c : Cmd) (h : CmdOk c) (ho : CmdIn c) : rdCmd (cmdB c) = some (c, []) := by
  have hn := h.nums
  have h1 := hn.seq
  have h2 := hn.snap
  have h3 := hn.dead
  have h4 := hn.aft
  have h5 := hn.held
  have h6 := hn.kind
  have h7 := hn.client
  have h8 := hn.code
  have h9 := h.text
  unfold TimeC at h1 h2 h3 h4 h5
  have hk := h.keys
  have hr := h.rngs
  have hw := h.wrts
  have hv := h.rows
  have k0 := hk.1
  have r0 := hr.1
  have w0 := hw.1
  have v0 := hv.1
  unfold rdCmd cmdB
  rw [rdInt_fwd c.kind (by unfold isInt; omega)]
  simp only [Option.bind_some]
  rw [rdInt_fwd c.client (by unfold isInt; omega)]
  simp only [Option.bind_some]
  rw [rdInt_fwd c.seq (by unfold isInt; omega)]
  simp only [Option.bind_some]
  rw [rdInt_fwd c.snap (by unfold isInt; omega)]
  simp only [Option.bind_some]
  rw [rdLst_fwd c.keys (by show _ < 18446744073709551616; omega) (fun x hx r => rdTxt_fwd x (by have := rise_size hk.2 x hx; omega) r)]
  simp only [Option.bind_some]
  rw [rdLst_fwd c.rngs (by show _ < 18446744073709551616; omega) (fun x hx r => rdRng_fwd x (by have := hr.2 x hx; unfold RngOk at this; show _ < 18446744073709551616 ∧ _ < 18446744073709551616; omega) r)]
  simp only [Option.bind_some]
  rw [rdLst_fwd c.wrts (by show _ < 18446744073709551616; omega) (fun x hx r => rdWrt_fwd x (by
    have a1 := (hw.2.1 x hx).1
    have a2 := rise_size hw.2.2.2 x.key (List.mem_map_of_mem hx)
    show _ < 18446744073709551616 ∧ _ < 18446744073709551616
    omega) r)]
  simp only [Option.bind_some]
  rw [rdInt_fwd c.dead (by unfold isInt; omega)]
  simp only [Option.bind_some]
  rw [rdInt_fwd c.aft (by unfold isInt; omega)]
  simp only [Option.bind_some]
  rw [rdInt_fwd c.held (by unfold isInt; omega)]
  simp only [Option.bind_some]
  rw [rdTxt_fwd c.text (by omega)]
  simp only [Option.bind_some]
  rw [rdInt_fwd c.code (by unfold isInt; omega)]
  simp only [Option.bind_some]
  have e := rdLst_fwd (rd := rdRow) (f := rowB') c.rows (by show _ < 18446744073709551616; omega) (fun x hx r => by
    have a0 := (hv.2 x hx).1
    exact rdLst_fwd x (by show _ < 18446744073709551616; omega) (fun v hvv r => rdVal_fwd v ((hv.2 x hx).2 v hvv) (ho x hx v hvv) r) r) []
  rw [List.append_nil] at e
  rw [e]
  rfl

/-! What is read was so many bytes. -/
def RdEx {α : Type} (rd : Rd α) (f : α → List UInt8) : Prop := ∀ l q, rd l = some q → (f q.1).length + q.2.length = l.length
theorem rdInt_ex : RdEx rdInt num8 := by
  intro l q h
  have := congrArg List.length (Cod.num.bwd l q.1 q.2 h).1
  rw [List.length_append] at this
  exact this.symm
theorem rdNat_ex : RdEx rdNat be8 := by
  intro l q h
  have := congrArg List.length (Cod.nat.bwd l q.1 q.2 h).1
  rw [List.length_append] at this
  exact this.symm
theorem rdTxt_ex : RdEx rdTxt txtB := by
  intro l q h
  obtain ⟨a, ha, h⟩ := Option.bind_eq_some_iff.1 h
  have h1 := rdNat_ex _ _ ha
  rw [be8_len] at h1
  split at h
  · rename_i hle
    cases h
    rw [txt_len]
    have e : (str (a.2.take a.1)).size = a.1 := by
      show (a.2.take a.1).length = a.1
      rw [List.length_take]
      omega
    rw [e, List.length_drop]
    omega
  · cases h
theorem rdBit_ex : RdEx rdBit (fun b => num8 (if b then 1 else 0)) := by
  intro l q h
  obtain ⟨a, ha, h⟩ := Option.map_eq_some_iff.1 h
  cases h
  have h1 := rdInt_ex _ _ ha
  rw [num8_len] at h1 ⊢
  exact h1
theorem rdVal_ex : RdEx rdVal valB := by
  intro l q h
  obtain ⟨a, ha, h⟩ := Option.bind_eq_some_iff.1 h
  obtain ⟨b, hb, h⟩ := Option.bind_eq_some_iff.1 h
  obtain ⟨c, hc, h⟩ := Option.bind_eq_some_iff.1 h
  obtain ⟨d, hd, h⟩ := Option.bind_eq_some_iff.1 h
  cases h
  have h1 := rdInt_ex _ _ ha
  have h2 := rdInt_ex _ _ hb
  have h3 := rdNat_ex _ _ hc
  have h4 := rdTxt_ex _ _ hd
  unfold valB
  simp only [List.length_append]
  omega
theorem rdRng_ex : RdEx rdRng rngB := by
  intro l q h
  obtain ⟨a, ha, h⟩ := Option.bind_eq_some_iff.1 h
  obtain ⟨b, hb, h⟩ := Option.bind_eq_some_iff.1 h
  cases h
  have h1 := rdTxt_ex _ _ ha
  have h2 := rdTxt_ex _ _ hb
  unfold rngB
  simp only [List.length_append]
  omega
theorem rdWrt_ex : RdEx rdWrt wrtB := by
  intro l q h
  obtain ⟨a, ha, h⟩ := Option.bind_eq_some_iff.1 h
  obtain ⟨b, hb, h⟩ := Option.bind_eq_some_iff.1 h
  obtain ⟨c, hc, h⟩ := Option.bind_eq_some_iff.1 h
  cases h
  have h1 := rdTxt_ex _ _ ha
  have h2 := rdTxt_ex _ _ hb
  have h3 := rdBit_ex _ _ hc
  unfold wrtB
  simp only [List.length_append]
  simp only [num8_len] at h3 ⊢
  omega
theorem rdMany_ex {α : Type} {rd : Rd α} {f : α → List UInt8} (hr : RdEx rd f) : ∀ n, RdEx (rdMany rd n) (fun l => l.flatMap f)
  | 0, l, q, h => by
    cases h
    simp
  | n + 1, l, q, h => by
    obtain ⟨a, ha, h⟩ := Option.bind_eq_some_iff.1 h
    obtain ⟨b, hb, h⟩ := Option.map_eq_some_iff.1 h
    cases h
    have h1 := rdMany_ex hr n _ _ hb
    have h2 := hr _ _ ha
    simp only [List.flatMap_cons, List.length_append] at h1 ⊢
    omega
theorem rdLst_ex {α : Type} {rd : Rd α} {f : α → List UInt8} (hr : RdEx rd f) : RdEx (rdLst rd) (lstB f) := by
  intro l q h
  obtain ⟨a, ha, h⟩ := Option.bind_eq_some_iff.1 h
  have h1 := rdNat_ex _ _ ha
  have h2 : (q.1.flatMap f).length + q.2.length = a.2.length := rdMany_ex hr _ _ _ h
  rw [be8_len] at h1
  unfold lstB
  rw [List.length_append, num8_len]
  omega
theorem rdCmd_ex : RdEx rdCmd cmdB := by
  intro l q h
  obtain ⟨a, ha, h⟩ := Option.bind_eq_some_iff.1 h
  obtain ⟨b, hb, h⟩ := Option.bind_eq_some_iff.1 h
  obtain ⟨c, hc, h⟩ := Option.bind_eq_some_iff.1 h
  obtain ⟨d, hd, h⟩ := Option.bind_eq_some_iff.1 h
  obtain ⟨e, he, h⟩ := Option.bind_eq_some_iff.1 h
  obtain ⟨f, hf, h⟩ := Option.bind_eq_some_iff.1 h
  obtain ⟨g, hg, h⟩ := Option.bind_eq_some_iff.1 h
  obtain ⟨i, hi, h⟩ := Option.bind_eq_some_iff.1 h
  obtain ⟨j, hj, h⟩ := Option.bind_eq_some_iff.1 h
  obtain ⟨k, hk, h⟩ := Option.bind_eq_some_iff.1 h
  obtain ⟨m, hm, h⟩ := Option.bind_eq_some_iff.1 h
  obtain ⟨n, hn, h⟩ := Option.bind_eq_some_iff.1 h
  obtain ⟨o, ho, h⟩ := Option.bind_eq_some_iff.1 h
  cases h
  have h1 := rdInt_ex _ _ ha
  have h2 := rdInt_ex _ _ hb
  have h3 := rdInt_ex _ _ hc
  have h4 := rdInt_ex _ _ hd
  have h5 := rdLst_ex rdTxt_ex _ _ he
  have h6 := rdLst_ex rdRng_ex _ _ hf
  have h7 := rdLst_ex rdWrt_ex _ _ hg
  have h8 := rdInt_ex _ _ hi
  have h9 := rdInt_ex _ _ hj
  have h10 := rdInt_ex _ _ hk
  have h11 := rdTxt_ex _ _ hm
  have h12 := rdInt_ex _ _ hn
  have h13 : (lstB rowB' o.1).length + o.2.length = n.2.length := rdLst_ex (f := rowB') (rdLst_ex rdVal_ex : RdEx rdRow rowB') _ _ ho
  unfold cmdB
  simp only [List.length_append]
  omega
theorem rdEx_le {α : Type} {rd : Rd α} {f : α → List UInt8} (h : RdEx rd f) : RdLe rd := fun l q hq => by have := h l q hq; omega
/-- The values that are read are values. -/
theorem rdLst_all {α : Type} {rd : Rd α} {P : α → Prop} (hP : ∀ l q, rd l = some q → P q.1) (l : List UInt8) (z : List α × List UInt8) (h : rdLst rd l = some z) : ∀ x ∈ z.1, P x := by
  obtain ⟨q, _, h2⟩ := Option.bind_eq_some_iff.1 h
  exact rdMany_all hP _ _ _ h2
theorem rdCmd_in (l : List UInt8) (q : Cmd × List UInt8) (h : rdCmd l = some q) : CmdIn q.1 := by
  obtain ⟨a, ha, h⟩ := Option.bind_eq_some_iff.1 h
  obtain ⟨b, hb, h⟩ := Option.bind_eq_some_iff.1 h
  obtain ⟨c, hc, h⟩ := Option.bind_eq_some_iff.1 h
  obtain ⟨d, hd, h⟩ := Option.bind_eq_some_iff.1 h
  obtain ⟨e, he, h⟩ := Option.bind_eq_some_iff.1 h
  obtain ⟨f, hf, h⟩ := Option.bind_eq_some_iff.1 h
  obtain ⟨g, hg, h⟩ := Option.bind_eq_some_iff.1 h
  obtain ⟨i, hi, h⟩ := Option.bind_eq_some_iff.1 h
  obtain ⟨j, hj, h⟩ := Option.bind_eq_some_iff.1 h
  obtain ⟨k, hk, h⟩ := Option.bind_eq_some_iff.1 h
  obtain ⟨m, hm, h⟩ := Option.bind_eq_some_iff.1 h
  obtain ⟨n, hn, h⟩ := Option.bind_eq_some_iff.1 h
  obtain ⟨o, ho, h⟩ := Option.bind_eq_some_iff.1 h
  cases h
  exact rdLst_all (P := fun l : List Val => ∀ v ∈ l, v.ok) (fun l q h => rdLst_all rdVal_ok l q h) _ _ ho

/-! How much a statement goes through. -/
def sK (x : ByteArray) : Nat := 1 + min x.size 60000
def sR (x : Rng) : Nat := 1 + min x.lo.size 60000 + min x.hi.size 60000
def sW (x : Wrt) : Nat := 1 + min x.key.size 60000 + min x.val.size 60000
def sV (x : Val) : Nat := 1 + min x.s.size 60000
def sums {α : Type} (s : α → Nat) (l : List α) : Nat := (l.map s).sum
def sL (l : List Val) : Nat := 1 + sums sV l
def SmallC (c : Cmd) : Prop := sums sK c.keys + sums sR c.rngs + sums sW c.wrts + sums sL c.rows ≤ 60000 ∧ c.text.size ≤ 60000
theorem sums_snoc {α : Type} (s : α → Nat) (l : List α) (k : Nat) (hk : k < l.length) : sums s (l.take (k + 1)) = sums s (l.take k) + s l[k] := by
  unfold sums
  rw [List.take_succ_eq_append_getElem hk, List.map_append, List.sum_append]
  simp
theorem sums_cons {α : Type} (s : α → Nat) (x : α) (l : List α) : sums s (x :: l) = s x + sums s l := by
  unfold sums
  simp
theorem sums_flat {α : Type} (s : α → Nat) (f : α → List UInt8) (o N : Nat) (h : ∀ x, s x ≤ N → (f x).length ≤ o + s x) : ∀ (l : List α), sums s l ≤ N → (l.flatMap f).length ≤ o * l.length + sums s l
  | [], _ => by simp
  | x :: l, hs => by
    rw [sums_cons] at hs ⊢
    have h1 := h x (by omega)
    have h2 := sums_flat s f o N h l (by omega)
    rw [List.flatMap_cons, List.length_append, List.length_cons, Nat.mul_succ]
    omega
theorem sums_len {α : Type} (s : α → Nat) (h : ∀ x, 1 ≤ s x) : ∀ (l : List α), l.length ≤ sums s l
  | [] => by simp
  | x :: l => by
    rw [sums_cons, List.length_cons]
    have := h x
    have := sums_len s h l
    omega
theorem sums_mem {α : Type} (s : α → Nat) : ∀ (l : List α), ∀ x ∈ l, s x ≤ sums s l
  | [], x, h => by cases h
  | y :: l, x, h => by
    rw [sums_cons]
    rcases List.mem_cons.1 h with rfl | h
    · omega
    · have := sums_mem s l x h
      omega
/-- Where not too much is gone through, what may be has not too many bytes. -/
theorem cmd_len {c : Cmd} (h : CmdOk c) (hs : SmallC c) : (cmdB c).length ≤ 200000 := by
  obtain ⟨h1, h2⟩ := hs
  have k0 := h.keys.1
  have r0 := h.rngs.1
  have w0 := h.wrts.1
  have v0 := h.rows.1
  have t0 := h.text
  have a1 := sums_flat sK txtB 8 60000 (fun x hx => by rw [txt_len]; unfold sK at hx ⊢; omega) c.keys (by omega)
  have a2 := sums_flat sR rngB 16 60000 (fun x hx => by unfold rngB; rw [List.length_append, txt_len, txt_len]; unfold sR at hx ⊢; omega) c.rngs (by omega)
  have a3 := sums_flat sW wrtB 24 60000 (fun x hx => by unfold wrtB; rw [List.length_append, List.length_append, txt_len, txt_len, num8_len]; unfold sW at hx ⊢; omega) c.wrts (by omega)
  have a4 : ∀ l ∈ c.rows, (rowB' l).length ≤ 264 + sL l := by
    intro l hl
    have b1 := (h.rows.2 l hl).1
    have b2 : 1 + sums sV l ≤ sums sL c.rows := sums_mem sL c.rows l hl
    show (rowB' l).length ≤ 264 + (1 + sums sV l)
    have b3 := sums_flat sV valB 32 60000 (fun x hx => by unfold valB; rw [List.length_append, List.length_append, List.length_append, txt_len, num8_len, num8_len, be8_len]; unfold sV at hx ⊢; omega) l (by omega)
    unfold rowB' lstB
    rw [List.length_append, num8_len]
    omega
  have a5 : ∀ (L : List (List Val)), (∀ l ∈ L, (rowB' l).length ≤ 264 + sL l) → (L.flatMap rowB').length ≤ 264 * L.length + sums sL L := by
    intro L
    induction L with
    | nil => intro _; simp
    | cons x L ih =>
      intro hL
      have b1 := hL x (by simp)
      have b2 := ih (fun l hl => hL l (by simp [hl]))
      rw [sums_cons, List.flatMap_cons, List.length_append, List.length_cons, Nat.mul_succ]
      omega
  have a6 := a5 c.rows a4
  unfold cmdB lstB
  simp only [List.length_append, num8_len, txt_len]
  omega
end Go.Proofs.Ytbhaahkjglfjmaa.Num
