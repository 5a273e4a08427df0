/-
  11 texts of a proof, joined.
-/
import Derived.Test.YtflfkhcbkhdahaaMg3
import Derived.StillTailTactics
import Derived.Deep.QuietTactic
import Derived.BigQuiet
import Derived.Deep.CutRange
import Derived.BigRegion
import Derived.Test.YtflfkhcbkhdahaaMg1
import Derived.Test.YtflfkhcbkhdahaaMg2
import Derived.Great.BuildSlice

/-
  The document's addresses: numbers' texts (ten, hex), the size of an address.
-/
namespace Go.Proofs.Ytflfkhcbkhdahaa.adC
open Go.ChangeShapes Go.WideShapes Go.ChangeAt Go.RowKit
open Go.Proofs.Ytflfkhcbkhdahaa.memC Go.Proofs.Ytflfkhcbkhdahaa.genC Go.Proofs.Ytflfkhcbkhdahaa.butC Go.Proofs.Ytflfkhcbkhdahaa.freeC
set_option linter.unusedVariables false
/-- a number's digits -/
def tenL (n : Nat) : List Int := if h : n < 10 then [48 + (n : Int)] else tenL (n / 10) ++ tenL (n % 10)
termination_by n
decreasing_by all_goals omega
theorem tenL_low {n : Nat} (h : n < 10) : tenL n = [48 + (n : Int)] := by rw [tenL, dif_pos h]
theorem tenL_high {n : Nat} (h : ¬ n < 10) : tenL n = tenL (n / 10) ++ tenL (n % 10) := by rw [tenL, dif_neg h]
theorem tenL_byte (n : Nat) : ∀ x ∈ tenL n, Byte x := by
  induction n using Nat.strongRecOn with
  | _ n ih =>
    by_cases h : n < 10
    · rw [tenL_low h]
      intro x hx
      rw [List.mem_singleton.1 hx]; unfold Byte; omega
    · rw [tenL_high h]
      intro x hx
      rcases List.mem_append.1 hx with h1 | h1
      · exact ih (n / 10) (by omega) x h1
      · exact ih (n % 10) (by omega) x h1
/-- a hex digit -/
def hexD (h : Int) : Int := if h ≤ 9 then 48 + h else 87 + h
def hexL (n : Nat) : List Int := if h : n < 16 then [hexD (n : Int)] else hexL (n / 16) ++ hexL (n % 16)
termination_by n
decreasing_by all_goals omega
set_option maxRecDepth 100000 in
theorem size_any (s : Bool) (b : List Int) (w : World) (h : b.length = 16) : Calls Try.prog 59 #[.agg (adrV s b)] w (Ret w (.int .i64 (adrN s))) := by
  have k1 : (w.alloc (.cells (adrV s b) 25)).cell? ⟨w.heap.size, 0, none⟩ = some (.bool s) := by rw [cell_new]; exact adrV_six _ _
  have B := Lib.hid (alloc_below w (.cells (adrV s b) 25))
  generalize adrV s b = C at *
  cases s
  all_goals
    go_enter Try.func59, Try.ntmps59
    go_wp2
    go_ret
    exact ⟨rfl, B.out⟩
end Go.Proofs.Ytflfkhcbkhdahaa.adC

/-
  The document's addresses: a group, and how many groups 0 there are from one on.
-/
namespace Go.Proofs.Ytflfkhcbkhdahaa.adC
open Go.ChangeShapes Go.WideShapes Go.ChangeAt Go.RowKit
open Go.Proofs.Ytflfkhcbkhdahaa.memC Go.Proofs.Ytflfkhcbkhdahaa.genC Go.Proofs.Ytflfkhcbkhdahaa.butC Go.Proofs.Ytflfkhcbkhdahaa.freeC
set_option linter.unusedVariables false
/-- the group at a place -/
def gr (b : List Int) (i : Nat) : Nat := (b.getD (2 * i) 0 * 256 + b.getD (2 * i + 1) 0).toNat
end Go.Proofs.Ytflfkhcbkhdahaa.adC

/-
  The document's addresses: how many groups 0 there are from one on.
-/
namespace Go.Proofs.Ytflfkhcbkhdahaa.adC
open Go.ChangeShapes Go.WideShapes Go.ChangeAt Go.RowKit
open Go.Proofs.Ytflfkhcbkhdahaa.memC Go.Proofs.Ytflfkhcbkhdahaa.genC Go.Proofs.Ytflfkhcbkhdahaa.butC Go.Proofs.Ytflfkhcbkhdahaa.freeC
set_option linter.unusedVariables false
def runG (b : List Int) : Nat → Nat → Nat
  | 0, _ => 0
  | f + 1, i => if gr b i = 0 then runG b f (i + 1) + 1 else 0
/-- how many groups 0 there are from a place on -/
def runN (b : List Int) (i : Nat) : Nat := runG b (8 - i) i
end Go.Proofs.Ytflfkhcbkhdahaa.adC

/-
  Hex digits: plain mathematics.
-/
namespace Go.Proofs.Ytflfkhcbkhdahaa.hexM
open Go.Proofs.Ytflfkhcbkhdahaa.memC
set_option linter.unusedVariables false
/-- the small digit of a number below 16 -/
def hexD (x : Int) : Int := if x < 10 then x + 48 else x + 87
def hexL (bs : List Int) : List Int := bs.flatMap fun b => [hexD (b / 16), hexD (b % 16)]
/-- a text's signs -/
def strL (s : ByteArray) : List Int := s.data.toList.map fun c => (c.toNat : Int)
theorem strL_of (xs : List Int) (h : ∀ x ∈ xs, 0 ≤ x ∧ x ≤ 255) : strL (strOfNums xs) = xs := by
  unfold strL
  rw [strOfNums_data, List.map_map]
  have : ∀ x ∈ xs, ((fun c : UInt8 => (c.toNat : Int)) ∘ fun n : Int => UInt8.ofNat n.toNat) x = x := by
    intro x hx
    have := h x hx
    simp only [Function.comp, UInt8.toNat_ofNat']
    omega
  rw [List.map_congr_left this]; simp
theorem strL_get (s : ByteArray) (i : Nat) (h : i < s.size) : (strL s)[i]? = some ((s[i]).toNat : Int) := by
  unfold strL
  rw [List.getElem?_map, List.getElem?_eq_getElem (by rw [Array.length_toList]; exact h)]
  rfl
end Go.Proofs.Ytflfkhcbkhdahaa.hexM

/-
  The document's addresses: the text.
-/
namespace Go.Proofs.Ytflfkhcbkhdahaa.adC
open Go.ChangeShapes Go.WideShapes Go.ChangeAt Go.RowKit
open Go.Proofs.Ytflfkhcbkhdahaa.memC Go.Proofs.Ytflfkhcbkhdahaa.genC Go.Proofs.Ytflfkhcbkhdahaa.butC Go.Proofs.Ytflfkhcbkhdahaa.freeC
open Go.Proofs.Ytflfkhcbkhdahaa.hexM (strL strL_of strL_get)
set_option linter.unusedVariables false
section
variable {P : Program} {ops : Array Oper} {rest : List Oper} {o : Oper} {a : Act} {Q : Exit → Act → World → Prop}
/-- an operation, behind a guard that says yes or behind none, whose value is known -/
theorem wpList_runG {w : World} (hw : Region.wanted o (yielded ops a.tmps) = true) (v : Value) (hr : (execOp a.eval o).run P w = .ok (.value v) w) (h : wpList P ops Q rest (a.put o.dst v) w) : wpList P ops Q (o :: rest) a w := by
  refine wpList_step fun K hK => ?_
  rw [if_pos hw]
  unfold Oper.wp
  rw [hr]
  exact hK _ _ h
theorem index_run {w : World} {T : TypeId} {s x : Operand} {S : ByteArray} {z c : Int} (ho : o.op = .index T s x) (hs : a.eval s = .string S) (hx : a.eval x = .int .i64 z)
    (hq : (Instr.index T (.string S) (.int .i64 z)).run P w = .ok (.int .u8 c) w) : (execOp a.eval o).run P w = .ok (.value (.int .u8 c)) w := by
  unfold execOp
  rw [ho]
  simp only [hs, hx, Sem.run_bind, hq, Result.andThen_ok, Sem.run_pure]
end
/-- a byte of a text -/
theorem str_at {xs : List Int} (hy : ∀ x ∈ xs, Byte x) {i : Nat} (hi : i < xs.length) {z : Int} (hz : z = (i : Int)) (w : World) : (Instr.index 9 (.string (strOfNums xs)) (.int .i64 z)).run Try.prog w = .ok (.int .u8 (xs.getD i 0)) w := by
  subst hz
  have hsz : i < (strOfNums xs).size := by rw [strOfNums_size]; exact hi
  rw [run_index_string w _ _ _ _ Try.underlying9, dif_pos ⟨by omega, by omega⟩]
  have h1 := strL_get (strOfNums xs) i hsz
  rw [strL_of xs hy, List.getElem?_eq_getElem hi] at h1
  have h2 := Option.some.inj h1
  rw [List.getD_eq_getElem?_getD, List.getElem?_eq_getElem hi]
  simp only [Option.getD_some]
  rw [h2]
  rfl
theorem str_emp (xs : List Int) : (strOfNums xs).toList = [] ↔ xs = [] := by rw [ByteArray.toList_eq, strOfNums_data]; simp
theorem str_nil (xs : List Int) : ((strOfNums xs).toList == ByteArray.toList { data := #[] }) = decide (xs = []) := by
  rw [Bool.eq_iff_iff, beq_iff_eq, decide_eq_true_eq]
  constructor
  · intro h
    have h1 := congrArg List.length h
    rw [ByteArray.toList_eq, ByteArray.toList_eq] at h1
    have h2 := strOfNums_size xs
    rw [ByteArray.size, ← Array.length_toList, h1] at h2
    exact List.eq_nil_of_length_eq_zero h2.symm
  · rintro rfl; rfl
/-- the text of four bytes, up to the i-th -/
def fourT (b : List Int) : Nat → List Int
  | 0 => []
  | i + 1 => (fourT b i ++ if i = 0 then [] else [46]) ++ tenL (b.getD i 0).toNat
theorem fourT_byte (b : List Int) : ∀ i, ∀ x ∈ fourT b i, Byte x
  | 0 => by simp [fourT]
  | i + 1 => by
    intro x hx
    rcases List.mem_append.1 hx with h | h
    · rcases List.mem_append.1 h with h | h
      · exact fourT_byte b i x h
      · split at h
        · cases h
        · rw [List.mem_singleton.1 h]; unfold Byte; decide
    · exact tenL_byte _ x h
/-- where the longest run of groups 0 begins, of those up to the i-th -/
def bestT (b : List Int) : Nat → Nat
  | 0 => 0
  | i + 1 => if runN b (bestT b i) < runN b i then i else bestT b i
theorem bestT_le (b : List Int) : ∀ i, bestT b i ≤ i
  | 0 => Nat.le_refl _
  | i + 1 => by
    unfold bestT
    have := bestT_le b i
    split <;> omega
def gapN (b : List Int) : Nat := if runN b (bestT b 8) < 2 then 8 else bestT b 8
theorem gapN_le (b : List Int) : gapN b ≤ 8 := by
  unfold gapN
  split
  · omega
  · exact bestT_le b 8
theorem gap_run {b : List Int} (h : gapN b < 8) : 2 ≤ runN b (gapN b) := by
  unfold gapN at h ⊢
  split
  · rename_i h1; rw [if_pos h1] at h; omega
  · rename_i h1; omega
/-- a ':', if the last sign is none -/
def colL (s : List Int) : List Int := if s = [] ∨ s.getLast? = some 58 then [] else [58]
/-- what is written from a group on -/
def prt (b : List Int) (best : Nat) : Nat → Nat → List Int → List Int
  | 0, _, s => s
  | f + 1, i, s => if 8 ≤ i then s else if i = best then prt b best f (i + runN b i) (s ++ [58, 58]) else prt b best f (i + 1) ((s ++ colL s) ++ hexL (gr b i))
def textL (s : Bool) (b : List Int) : List Int := if s then prt b (gapN b) 8 0 [] else fourT b 4
theorem prt_end {b : List Int} {best f i : Nat} {s : List Int} (h : 8 ≤ i) : prt b best f i s = s := by
  cases f
  · rfl
  · unfold prt; rw [if_pos h]
theorem prt_gap {b : List Int} {best f i : Nat} {s : List Int} (h : i < 8) (hb : i = best) : prt b best (f + 1) i s = prt b best f (i + runN b i) (s ++ [58, 58]) := by
  rw [prt, if_neg (by omega), if_pos hb]
theorem prt_one {b : List Int} {best f i : Nat} {s : List Int} (h : i < 8) (hb : i ≠ best) : prt b best (f + 1) i s = prt b best f (i + 1) ((s ++ colL s) ++ hexL (gr b i)) := by
  rw [prt, if_neg (by omega), if_neg hb]
end Go.Proofs.Ytflfkhcbkhdahaa.adC

/-
  Rows of texts that are the call's own: what they hold, a text put behind, a text turned.
-/
namespace Go.Proofs.Ytflfkhcbkhdahaa.txC
open Go.ChangeShapes Go.WideShapes Go.ChangeAt Go.RowKit
open Go.Proofs.Ytflfkhcbkhdahaa.memC Go.Proofs.Ytflfkhcbkhdahaa.genC
set_option linter.unusedVariables false
def txts (ls : List (List Int)) : List Value := ls.map fun l => Value.string (strOfNums l)
def OwnT (w : World) (base : Nat) (v : Value) (ls : List (List Int)) : Prop := w.ownsRow base 9 1 v ls.length (txts ls)
theorem txts_len (ls : List (List Int)) : (txts ls).length = ls.length := by simp [txts]
theorem txts_one (ls : List (List Int)) : ∀ u ∈ txts ls, u.oneCell' = true := by
  intro u hu
  obtain ⟨l, _, rfl⟩ := List.mem_map.1 hu
  rfl
section
variable {w w' : World} {base B : Nat} {v : Value} {ls : List (List Int)}
theorem OwnT.blk (h : OwnT w base v ls) : ∀ g, v.ownBlock = some g → base ≤ g ∧ g < w.heap.size := fun g hg => h.lt g hg
theorem OwnT.form (h : OwnT w base v ls) : ∃ A cap, v = .slice A ls.length cap ∧ ls.length ≤ cap ∧ cap ≤ maxLen := by
  rcases h.2 with ⟨rfl, h0⟩ | ⟨g, cap, cur, rfl, hb, hh, hl, hm, hs, ht⟩
  · rw [h0]; exact ⟨none, 0, rfl, Nat.le_refl _, by simp [maxLen]⟩
  · exact ⟨some ⟨g, 0, none⟩, cap, rfl, hl, hm⟩
theorem OwnT.keep (h : OwnT w base v ls) (hk : ∀ g, base ≤ g → g < w.heap.size → w'.heap[g]? = w.heap[g]?) : OwnT w' base v ls := by
  refine ⟨h.1, ?_⟩
  rcases h.2 with h0 | ⟨g, cap, cur, rfl, hb, hh, h'⟩
  · exact .inl h0
  · exact .inr ⟨g, cap, cur, rfl, hb, (hk g hb (h.lt g rfl).2).trans hh, h'⟩
theorem OwnT.alloc (h : OwnT w base v ls) (o : Obj) : OwnT (w.alloc o) base v ls := World.ownsRow.alloc h o
theorem OwnT.below (h : OwnT w base v ls) (hb : Below w.heap.size w w') : OwnT w' base v ls := h.keep fun g _ hg => hb.block g hg
theorem OwnT.row {A : Option Addr} {n c : Nat} (h : OwnT w base (.slice A n c) ls) (hl : ls.length = n) (hn : 0 < n) :
    ∃ g, A = some ⟨g, 0, none⟩ ∧ base ≤ g ∧ g < w.heap.size ∧ (∀ j, j < n → w.cell? ⟨g, j, none⟩ = some (.string (strOfNums (ls.getD j [])))) ∧ ∀ j, w.frozen? ⟨g, j, none⟩ = false := by
  have hk := h.blk
  unfold OwnT at h
  rw [hl] at h
  rcases h.2 with ⟨e2, h0⟩ | ⟨g, cap, cur, e2, hb, hh, h3⟩
  · cases e2; omega
  · cases e2
    refine ⟨g, rfl, hb, (hk g rfl).2, fun j hj => ?_, fun j => World.ownsRow.frozenAt h j⟩
    rw [World.ownsRow.cellAt h j (by omega)]
    simp [txts, List.getD_eq_getElem?_getD, hl, hj]
end
section
variable {P : Program} {ops : Array Oper} {rest : List Oper} {o : Oper} {a : Act} {Q : Exit → Act → World → Prop}
/-- append(own, text): the literal's cell has just been laid -/
theorem wpList_txt (w : World) (hgd : o.guard = none) (s x : Operand) (t : TypeId)
    (ho : o.op = .call { callee := .builtin .append, args := #[s, x], argTypes := #[t, t] })
    (i : TypeInfo) (z : Value) (bytes : Nat) (ht : P.underlying t = some (.slice 9)) (hi : P.info? 9 = some i) (hz : i.zero = some z)
    (hsize : i.size = 1) (hby : i.bytes = bytes) (hzs : z.cells.size = 1) (base : Nat) (v : Value) (ls : List (List Int)) (hs : a.eval s = v) (hown : OwnT w base v ls)
    (S : ByteArray) (l : List Int) (hS : S = strOfNums l) (hx : a.eval x = .slice (some ⟨w.heap.size, 0, none⟩) 1 1) (h63 : ls.length + 1 ≤ maxLen) (hbytes : (ls.length + 1) * bytes ≤ 140737488355328) (hbase : base ≤ w.heap.size) (L : Nat) (hL : ls.length + 1 = L)
    (h : ∀ A' c' w', L ≤ c' → c' ≤ maxLen → OwnT w' base (.slice A' L c') (ls ++ [l]) → Below base w w' → wpList P ops Q rest (a.put o.dst (.slice A' L c')) w') : wpList P ops Q (o :: rest) a (w.alloc (.cells #[.string S] 9)) := by
  subst hS
  have hsz : (w.alloc (.cells #[.string (strOfNums l)] 9)).heap.size = w.heap.size + 1 := by simp
  obtain ⟨v', w', hrun, h2, h3, _⟩ := run_append_own (P := P) (w.alloc (.cells #[.string (strOfNums l)] 9)) base t o.type 9 i z 1 bytes ht hi hz hsize hby hzs (by omega) v _ _ (hown.alloc _) ⟨w.heap.size, 0, none⟩ 1 1 (txts [l]) (by simp [txts]) (by
    intro j u hu
    have hj : j = 0 := by
      have := (List.getElem?_eq_some_iff.1 hu).1
      rw [txts_len] at this; simp at this; exact this
    subst hj
    have : u = .string (strOfNums l) := by simpa [txts] using hu.symm
    subst this
    simp [go_sem]) (txts_one _) h63 hbytes (by omega)
  have O : OwnT w' base v' (ls ++ [l]) := by
    unfold OwnT
    rw [List.length_append]
    unfold txts at h2 ⊢
    rw [List.map_append]
    exact h2
  have eL : (ls ++ [l]).length = L := by rw [List.length_append]; exact hL
  obtain ⟨A', c', e2, g1, g2⟩ := O.form
  rw [eL] at e2 g1
  subst e2
  have hh := h A' c' w' g1 g2 O (((Below.refl _ _).alloc hbase _).grown h3 (by omega) fun g hg => (hown.blk g hg).1)
  refine wpList_plain hgd fun K hK => ?_
  unfold Oper.wp execOp
  simp only [ho, resolve, invoke, builtin, Sem.run_bind, Sem.run_pure, Result.andThen_ok, List.map_toArray, List.map_cons, List.map_nil, hs, hx, hrun]
  exact hK _ _ hh
end
end Go.Proofs.Ytflfkhcbkhdahaa.txC

/-
  A region that draws its order, whose operations are quiet but for the last one, which waits for all others: one walk in the text's order serves every order.
-/
namespace Go.Proofs.Ytflfkhcbkhdahaa.lastC
open Go.ChangeShapes Go.WideShapes Go.ChangeAt Go.RowKit
set_option linter.unusedVariables false
/-- edges go back; nothing is guarded -/
def backB (L : List Oper) : Bool := (List.range L.length).all fun j => match L[j]? with
  | some o => o.guard.isNone && o.after.all fun e => !Region.binds .any e || decide (e.on < j)
  | none => true
/-- the last one waits for all -/
def waitB (n : Nat) (o : Oper) : Bool := (List.range n).all fun i => o.after.any fun e => Region.binds .any e && (e.on == i)
section
variable {P : Program} {L l : List Oper} {o : Oper} {C : World → Prop}
theorem backB_spec (h : backB L = true) {j : Nat} {oj : Oper} (hj : L[j]? = some oj) : oj.guard = none ∧ ∀ e ∈ oj.after, Region.binds .any e = true → e.on < j := by
  have hlt : j < L.length := by
    rcases Nat.lt_or_ge j L.length with h1 | h1
    · exact h1
    · rw [List.getElem?_eq_none h1] at hj; cases hj
  have h1 := List.all_eq_true.1 h j (List.mem_range.2 hlt)
  rw [hj] at h1
  simp only [Bool.and_eq_true] at h1
  refine ⟨by simpa using h1.1, fun e he hb => ?_⟩
  have h2 := Array.all_eq_true'.1 h1.2 e he
  rw [hb] at h2
  simpa using h2
theorem waitB_spec {n : Nat} (h : waitB n o = true) {i : Nat} (hi : i < n) : ∃ e ∈ o.after, Region.binds .any e = true ∧ e.on = i := by
  have h1 := List.all_eq_true.1 h i (List.mem_range.2 hi)
  obtain ⟨e, he, hb⟩ := Array.any_eq_true'.1 h1
  simp only [Bool.and_eq_true, beq_iff_eq] at hb
  exact ⟨e, he, hb.1, hb.2⟩
/-- the marks of the whole region, and of its head -/
structure Marks (n : Nat) (m mh : Array Bool) : Prop where
  size : m.size = n + 1
  sizeh : mh.size = n
  same : ∀ i, i < n → m[i]? = mh[i]?
  last : m[n]? = some false
theorem Marks.set {n i : Nat} {m mh : Array Bool} (h : Marks n m mh) (hi : i < n) : Marks n (m.setIfInBounds i true) (mh.setIfInBounds i true) := by
  refine ⟨by simp [h.size], by simp [h.sizeh], fun j hj => ?_, ?_⟩
  · simp only [Array.getElem?_setIfInBounds]
    split
    · rename_i e; subst e; simp [h.size, h.sizeh, hi]; omega
    · exact h.same j hj
  · simp only [Array.getElem?_setIfInBounds]
    rw [if_neg (by omega)]; exact h.last
theorem Marks.getD {n i : Nat} {m mh : Array Bool} (h : Marks n m mh) (hi : i < n) (d : Bool) : m.getD i d = mh.getD i d := by
  have := h.same i hi
  simp only [Array.getD_eq_getD_getElem?, this]
variable {m mh : Array Bool} {n : Nat}
theorem head_at (l : List Oper) (o : Oper) {i : Nat} (hi : i < l.length) : (l ++ [o]).toArray[i]? = l.toArray[i]? := by
  simp [List.getElem?_append_left hi]
theorem ready_head (hb : backB (l ++ [o]) = true) (M : Marks l.length m mh) {i : Nat} (hi : i < l.length) : i ∈ Region.ready .any (l ++ [o]).toArray m ↔ i ∈ Region.ready .any l.toArray mh := by
  rw [mem_ready, mem_ready, head_at l o hi, M.getD hi true]
  refine and_congr Iff.rfl (exists_congr fun oi => and_congr_right fun hoi => ?_)
  have hoi2 : (l ++ [o])[i]? = some oi := by rw [List.getElem?_append_left hi]; simpa using hoi
  obtain ⟨_, hback⟩ := backB_spec hb hoi2
  refine forall_congr' fun e => ?_
  constructor
  · intro h he hbd
    rw [← M.getD (Nat.lt_trans (hback e he hbd) hi) false]; exact h he hbd
  · intro h he hbd
    rw [M.getD (Nat.lt_trans (hback e he hbd) hi) false]; exact h he hbd
theorem getD_flip {mh : Array Bool} {i : Nat} (hi : i < mh.size) (h : mh.getD i true = true) : mh.getD i false = true := by
  simp [hi] at h ⊢; exact h
theorem all_marked (hb : backB (l ++ [o]) = true) (M : Marks l.length m mh) (hr : Region.ready .any l.toArray mh = []) : ∀ i, i < l.length → mh.getD i true = true := by
  intro i
  induction i using Nat.strongRecOn with
  | _ i ih =>
    intro hi
    cases hg : mh.getD i true with
    | true => rfl
    | false =>
      exfalso
      have hoi : (l ++ [o])[i]? = some (l[i]'hi) := by rw [List.getElem?_append_left hi]; exact List.getElem?_eq_getElem hi
      obtain ⟨_, hback⟩ := backB_spec hb hoi
      have : i ∈ Region.ready .any l.toArray mh := mem_ready.2 ⟨hg, l[i]'hi, by simp [List.getElem?_eq_getElem hi], fun e he hbd => by
        have h1 := hback e he hbd
        exact getD_flip (by rw [M.sizeh]; omega) (ih e.on h1 (by omega))⟩
      rw [hr] at this
      cases this
theorem last_at (l : List Oper) (o : Oper) : (l ++ [o]).toArray[l.length]? = some o := by simp
theorem last_ready (hb : backB (l ++ [o]) = true) (M : Marks l.length m mh) (hall : ∀ i, i < l.length → mh.getD i true = true) : l.length ∈ Region.ready .any (l ++ [o]).toArray m := by
  have hoi : (l ++ [o])[l.length]? = some o := by simp
  obtain ⟨_, hback⟩ := backB_spec hb hoi
  refine mem_ready.2 ⟨by simp [Array.getD_eq_getD_getElem?, M.last], o, last_at l o, fun e he hbd => ?_⟩
  have h1 := hback e he hbd
  rw [M.getD h1 false]
  exact getD_flip (by rw [M.sizeh]; exact h1) (hall _ h1)
theorem ready_last (hw : waitB l.length o = true) (M : Marks l.length m mh) (hr : l.length ∈ Region.ready .any (l ++ [o]).toArray m) : ∀ i, i < l.length → mh.getD i true = true := by
  intro i hi
  obtain ⟨_, o', ho', hall⟩ := mem_ready.1 hr
  rw [last_at] at ho'
  cases ho'
  obtain ⟨e, he, hbd, rfl⟩ := waitB_spec hw hi
  have h1 := hall e he hbd
  rw [M.getD hi false] at h1
  have h2 : e.on < mh.size := by rw [M.sizeh]; exact hi
  simp [h2] at h1 ⊢; exact h1
theorem ready_le {i : Nat} (hr : i ∈ Region.ready .any (l ++ [o]).toArray m) : i ≤ l.length := by
  obtain ⟨_, o', ho', _⟩ := mem_ready.1 hr
  have : i < (l ++ [o]).toArray.size := (Array.getElem?_eq_some_iff.1 ho').1
  simp at this; omega
theorem none_ready (M : Marks l.length m mh) (hall : ∀ i, i < l.length → mh.getD i true = true) : Region.ready .any (l ++ [o]).toArray (m.setIfInBounds l.length true) = [] := by
  refine List.eq_nil_iff_forall_not_mem.2 fun j hj => ?_
  have hle := ready_le hj
  obtain ⟨h1, _⟩ := mem_ready.1 hj
  by_cases e : j = l.length
  · subst e
    simp [Array.getD_eq_getD_getElem?, M.size] at h1
  · have hj2 : j < l.length := by omega
    have h2 := hall j hj2
    rw [← M.getD hj2 true] at h2
    simp only [Array.getD_eq_getD_getElem?, Array.getElem?_setIfInBounds] at h1 h2
    rw [if_neg (fun h => e h.symm)] at h1
    rw [h1] at h2; cases h2
variable {Q : Exit → Act → World → Prop} {a : Act} {w : World}
theorem any_last (hb : backB (l ++ [o]) = true) (M : Marks l.length m mh) (hall : ∀ i, i < l.length → mh.getD i true = true)
    (hq : wpOp P (l ++ [o]).toArray Q l.length (fun a' w' => Q .normal a' w') a w) (g : Nat) : wpAny P .any (l ++ [o]).toArray Q (g + 1) m a w := by
  refine ⟨fun h0 => ?_, fun i hi => ?_⟩
  · have := last_ready hb M hall
    rw [h0] at this; cases this
  · have hle := ready_le hi
    have hin : i = l.length := by
      by_cases e : i = l.length
      · exact e
      · exfalso
        obtain ⟨h1, _⟩ := mem_ready.1 hi
        have h2 := hall i (by omega)
        rw [M.getD (by omega) true] at h1
        rw [h1] at h2; cases h2
    subst hin
    refine wpOp_mono (fun a' w' h => ?_) hq
    have hn := none_ready (o := o) M hall
    cases g with
    | zero => exact ⟨hn, h⟩
    | succ g => exact ⟨fun _ => h, fun i hi' => by rw [hn] at hi'; cases hi'⟩
theorem any_of_head (hb : backB (l ++ [o]) = true) (hw : waitB l.length o = true) : ∀ (f : Nat) (m mh : Array Bool) (a : Act) (w : World), Marks l.length m mh → C w →
    wpAnyQ P .any l.toArray C (fun a' => ∀ w', C w' → wpOp P (l ++ [o]).toArray Q l.length (fun a' w' => Q .normal a' w') a' w') f mh a → wpAny P .any (l ++ [o]).toArray Q (f + 1) m a w
  | 0, m, mh, a, w, M, hc, h => any_last hb M (all_marked hb M h.1) (h.2 w hc) 0
  | f + 1, m, mh, a, w, M, hc, h => by
    by_cases hr : Region.ready .any l.toArray mh = []
    · exact any_last hb M (all_marked hb M hr) (h.1 hr w hc) (f + 1)
    · refine ⟨fun h0 => ?_, fun i hi => ?_⟩
      · exfalso
        obtain ⟨j, hj⟩ := List.exists_mem_of_ne_nil _ hr
        have hjl : j < l.length := by
          obtain ⟨_, o', ho', _⟩ := mem_ready.1 hj
          have : j < l.toArray.size := (Array.getElem?_eq_some_iff.1 ho').1
          simpa using this
        have := (ready_head hb M hjl).2 hj
        rw [h0] at this; cases this
      · have hle := ready_le hi
        by_cases e : i = l.length
        · subst e
          have hall := ready_last hw M hi
          exfalso
          obtain ⟨j, hj⟩ := List.exists_mem_of_ne_nil _ hr
          obtain ⟨h1, o', ho', _⟩ := mem_ready.1 hj
          have hjl : j < l.toArray.size := (Array.getElem?_eq_some_iff.1 ho').1
          have h2 := hall j (by simpa using hjl)
          rw [h1] at h2; cases h2
        · have hil : i < l.length := by omega
          have hq := h.2 i ((ready_head hb M hil).1 hi)
          have hoi : (l ++ [o])[i]? = some (l[i]'hil) := by rw [List.getElem?_append_left hil]; exact List.getElem?_eq_getElem hil
          obtain ⟨hg, _⟩ := backB_spec hb hoi
          have hwant : ∀ y, Region.wanted (l[i]'hil) y = true := fun y => by simp [Region.wanted, hg]
          unfold qOp at hq
          simp only [List.getElem?_toArray, List.getElem?_eq_getElem hil, hwant, if_true] at hq
          unfold wpOp
          simp only [List.getElem?_toArray, hoi, hwant, if_true]
          exact .inl (Oper.wp_of_quiet hc (fun a' w' hc' h' => any_of_head hb hw f _ _ a' w' (M.set hil) hc' h') hq)
/-- one walk in the text's order, and the last operation behind it, in whatever world the draws have left -/
theorem wp_region_last {id : Nat} (n : Nat) (hm : P.follows .mixedOrders = true) (hB : Region.lexB .any (L.take n).toArray = true) (hb : backB L = true) (hw : (match L.drop n with | [o] => waitB n o | _ => false) = true)
    (h : wpQuiet P (L.take n).toArray (fun w' => ∃ j, w' = w.drewN j) (fun a' => ∀ w', (∃ j, w' = w.drewN j) → wpList P L.toArray Q (L.drop n) a' w') (L.take n) a) : (Code.region id L.toArray true).wp P Q a w := by
  obtain ⟨o, ho, hwo⟩ : ∃ o, L.drop n = [o] ∧ waitB n o = true := by
    revert hw
    cases hd : L.drop n with
    | nil => intro hw; cases hw
    | cons o r =>
      cases r with
      | nil => intro hw; exact ⟨o, rfl, hw⟩
      | cons _ _ => intro hw; cases hw
  have hL : L.take n ++ [o] = L := by rw [← ho]; exact List.take_append_drop n L
  have hn : (L.take n).length = n := by
    have h1 := congrArg List.length ho
    rw [List.length_drop] at h1
    rw [List.length_take]; simp at h1; omega
  obtain ⟨l, hl⟩ : ∃ l, l = L.take n := ⟨_, rfl⟩
  rw [← hl] at hL hn hB h
  rw [ho] at h
  subst hL
  subst hn
  simp only [Region.lexB, Bool.and_eq_true] at hB
  refine wp_region_any hm ?_
  have hx := wpAnyQ_lex (C := fun w' => ∃ j, w' = w.drewN j) (md := .any) hB.1 l 0 (Array.replicate l.toArray.size false) a (by simp) (by simpa using hB.2) h
  have hfin := any_of_head (P := P) (C := fun w' => ∃ j, w' = w.drewN j) (Q := Q) hb hwo l.length (Array.replicate (l ++ [o]).toArray.size false) (Array.replicate l.toArray.size false) a { w with drawn := w.drawn + 1 }
    ⟨by simp, by simp, fun i hi => by simp only [Array.getElem?_replicate]; rw [if_pos (by simp; omega), if_pos (by simpa using hi)], by simp⟩ ⟨1, rfl⟩ ?_
  · simpa using hfin
  · have e : (fun a' => ∀ w', (∃ j, w' = w.drewN j) → wpList P (l ++ [o]).toArray Q [o] a' w') = (fun a' => ∀ w', (∃ j, w' = w.drewN j) → wpOp P (l ++ [o]).toArray Q l.length (fun a' w' => Q .normal a' w') a' w') := by
      funext a'
      refine forall_congr fun w' => ?_
      simp only [wpOp, last_at, wpList]
    rw [e] at hx
    exact hx
end
end Go.Proofs.Ytflfkhcbkhdahaa.lastC

/-
  A region that draws its order, all of whose operations but the last only make memory; the last one waits for all.
-/
namespace Go.Proofs.Ytflfkhcbkhdahaa.freeC
open Go.ChangeShapes Go.WideShapes Go.ChangeAt Go.RowKit
open Go.Proofs.Ytflfkhcbkhdahaa.lastC
set_option linter.unusedVariables false
section
variable {P : Program} {L : List Oper} {Q : Exit → Act → World → Prop}
/-- of each of the first n operations, from number s on -/
def UpFrom (R : Nat → Oper → Prop) : Nat → Nat → List Oper → Prop
  | 0, _, _ => True
  | _ + 1, _, [] => True
  | n + 1, s, o :: r => R s o ∧ UpFrom R n (s + 1) r
theorem up_from {R : Nat → Oper → Prop} : ∀ (n : Nat) (L : List Oper) (s : Nat), UpFrom R n s L → ∀ i o, i < n → L[i]? = some o → R (s + i) o
  | 0, _, _, _, i, o, hi, _ => by omega
  | n + 1, [], _, _, i, o, _, h => by simp at h
  | n + 1, o' :: r, s, h, 0, o, _, ho => by
    obtain rfl : o' = o := by simpa using ho
    exact h.1
  | n + 1, o' :: r, s, h, i + 1, o, hi, ho => by
    have := up_from n r (s + 1) h.2 i o (by omega) (by simpa using ho)
    rw [show s + (i + 1) = s + 1 + i by omega]; exact this
end
end Go.Proofs.Ytflfkhcbkhdahaa.freeC

/-
  A region that draws its order, all of whose operations but the last only make memory; each is waited for by a later one, so the last one comes last.
-/
namespace Go.Proofs.Ytflfkhcbkhdahaa.freeC
open Go.ChangeShapes Go.WideShapes Go.ChangeAt Go.RowKit
set_option linter.unusedVariables false
section
variable {P : Program} {L : List Oper} {Q : Exit → Act → World → Prop}
theorem done_more {o : Oper} {m m' : Nat → Bool} (h : doneB o m = true) (hm : ∀ j, m j = true → m' j = true) : doneB o m' = true := by
  unfold doneB at h ⊢
  rw [Array.all_eq_true'] at h ⊢
  intro e he
  have := h e he
  cases hb : Region.binds .any e with
  | false => rfl
  | true => rw [hb] at this; simpa using hm e.on (by simpa using this)
/-- each of the first n is waited for by a later one -/
def coverB (n : Nat) (L : List Oper) : Bool := (List.range n).all fun i => (List.range (n + 1)).any fun j => decide (i < j) && (match L[j]? with | some o => needs o [i] | none => false)
theorem cover_all {n : Nat} (hc : coverB n L = true) {m : Nat → Bool} (hm : ∀ i o, L[i]? = some o → m i = true → doneB o m = true) {o : Oper} (ho : L[n]? = some o) (hd : doneB o m = true) : ∀ k i, i < n → n - i ≤ k → m i = true
  | 0, i, hi, hk => by omega
  | k + 1, i, hi, hk => by
    have h1 := List.all_eq_true.1 hc i (List.mem_range.2 hi)
    obtain ⟨j, hj, h2⟩ := List.any_eq_true.1 h1
    have hj2 := List.mem_range.1 hj
    simp only [Bool.and_eq_true, decide_eq_true_eq] at h2
    obtain ⟨hij, h3⟩ := h2
    cases hL : L[j]? with
    | none => rw [hL] at h3; cases h3
    | some o2 =>
      rw [hL] at h3
      by_cases e : j = n
      · subst e
        rw [ho] at hL
        obtain rfl := Option.some.inj hL
        exact need_ok h3 hd i (by simp)
      · have hmj := cover_all hc hm ho hd k j (by omega) (by omega)
        exact need_ok h3 (hm j o2 hL hmj) i (by simp)
theorem wp_region_cov {id : Nat} {a : Act} {w : World} (n : Nat) (hm : P.follows .mixedOrders = true) (tab : List (Option Nat)) (hb : backE L = true) (ht : slots tab L = true) (hl : tab.length = a.tmps.size)
    (hn : L.length = n + 1) (hw : (match L[n]? with | some o => o.guard.isNone | none => false) = true) (hc : coverB n L = true)
    (us0 : Nat → Value) (ha : frame tab a us0 = a) (G : World → Prop) (V : Nat → Value → World → Prop) (hG : G w.drew) (hkeep : ∀ i v w w', Below w.heap.size w w' → V i v w → V i v w')
    (hstep : UpFrom (Step P L Q tab a G V) n 0 L)
    (hlast : ∀ us w o, L[n]? = some o → G w → (∀ i, i < n → V i (us i) w) → o.wp P (frame tab a us) w (fun a' w' => ∃ v, a' = (frame tab a us).put o.dst v ∧ Q .normal ((frame tab a us).put o.dst v) w') Q) : (Code.region id L.toArray true).wp P Q a w := by
  refine wp_region_free hm tab hb ht hl us0 ha (fun m us w => (∀ i o, L[i]? = some o → m i = true → doneB o m = true) ∧ ((m n = false ∧ G w ∧ ∀ j, m j = true → V j (us j) w) ∨ (m n = true ∧ (∀ j, j < n → m j = true) ∧ Q .normal (frame tab a us) w))) ⟨fun i o _ h => (by cases h), .inl ⟨rfl, hG, fun j h => by cases h⟩⟩ ?_ ?_
  · intro i o ho m us w' ⟨hcl, hJ⟩ hmi hd
    have hil : i < n + 1 := by rw [← hn]; exact (List.getElem?_eq_some_iff.1 ho).1
    have hput : ∀ us v, (frame tab a us).put o.dst v = frame tab a (upd us i v) := by
      intro us v
      have h1 := List.all_eq_true.1 ht i (List.mem_range.2 (by omega))
      rw [ho] at h1
      exact frame_put us h1 hl v
    have hgrow : ∀ j, m j = true → upd m i true j = true := by
      intro j hj
      by_cases e : j = i
      · subst e; exact upd_same _ _ _
      · rw [upd_other _ _ e]; exact hj
    have hcl2 : ∀ j o2, L[j]? = some o2 → upd m i true j = true → doneB o2 (upd m i true) = true := by
      intro j o2 h2 hj
      by_cases e : j = i
      · subst e
        rw [ho] at h2
        obtain rfl := Option.some.inj h2
        exact done_more hd hgrow
      · rw [upd_other _ _ e] at hj
        exact done_more (hcl j o2 h2 hj) hgrow
    rcases hJ with ⟨hmn, hg, hv⟩ | ⟨hmn, hall, _⟩
    · by_cases e : i = n
      · subst e
        rw [ho] at hw
        simp only [Option.isNone_iff_eq_none] at hw
        have hall : ∀ j, j < i → m j = true := fun j hj => cover_all hc hcl ho hd (i - j) j hj (Nat.le_refl _)
        rw [if_pos (show Region.wanted o (yielded L.toArray (frame tab a us).tmps) = true by simp [Region.wanted, hw])]
        have hs := hlast us w' o ho hg fun j hj => hv j (hall j hj)
        refine Oper.wp_mono (fun a2 w2 h2 => ?_) hs
        obtain ⟨v, ha, h2⟩ := h2
        refine ⟨v, ha, hcl2, .inr ⟨upd_same _ _ _, fun j hj => by rw [upd_other _ _ (by omega)]; exact hall j hj, ?_⟩⟩
        rw [← hput us v]; exact h2
      · have hs := up_from n L 0 hstep i o (by omega) ho m us w' hg hv hd
        rw [Nat.zero_add] at hs
        have hset : ∀ v w'', Below w'.heap.size w' w'' → V i v w'' → ∀ j, upd m i true j = true → V j (upd us i v j) w'' := by
          intro v w'' hb hvi j hj
          by_cases e : j = i
          · subst e; rw [upd_same]; exact hvi
          · rw [upd_other _ _ e]; rw [upd_other _ _ e] at hj; exact hkeep _ _ _ _ hb (hv j hj)
        have hmn2 : upd m i true n = false := by rw [upd_other _ _ (fun h => e h.symm)]; exact hmn
        split
        · rename_i hw2
          rw [if_pos hw2] at hs
          refine Oper.wp_mono (fun a2 w2 h2 => ?_) hs
          obtain ⟨v, ha, hg2, hb2, hv2⟩ := h2
          exact ⟨v, ha, hcl2, .inl ⟨hmn2, hg2, hset v w2 hb2 hv2⟩⟩
        · rename_i hw2
          rw [if_neg hw2] at hs
          exact ⟨hcl2, .inl ⟨hmn2, hg, hset undef w' (Below.refl _ _) hs⟩⟩
    · exfalso
      by_cases e : i = n
      · subst e; rw [hmn] at hmi; cases hmi
      · rw [hall i (by omega)] at hmi; cases hmi
  · intro m us w' hm ⟨_, hJ⟩
    rcases hJ with ⟨hmn, _⟩ | ⟨_, _, hq⟩
    · rw [hm n (by omega)] at hmn; cases hmn
    · exact hq
end
end Go.Proofs.Ytflfkhcbkhdahaa.freeC

/-
  The document's addresses: a text's parts between bytes.
-/
namespace Go.Proofs.Ytflfkhcbkhdahaa.adC
open Go.ChangeShapes Go.WideShapes Go.ChangeAt Go.RowKit
open Go.Proofs.Ytflfkhcbkhdahaa.memC Go.Proofs.Ytflfkhcbkhdahaa.genC Go.Proofs.Ytflfkhcbkhdahaa.butC Go.Proofs.Ytflfkhcbkhdahaa.freeC Go.Proofs.Ytflfkhcbkhdahaa.txC
set_option linter.unusedVariables false
/-- the parts between bytes c: those that there are, and the one that is under way -/
def spl (c : Int) : List Int → List (List Int) → List Int → List (List Int)
  | [], acc, cur => acc ++ [cur]
  | x :: r, acc, cur => if x = c then spl c r (acc ++ [cur]) [] else spl c r acc (cur ++ [x])
/-- the state of the loop -/
structure SX (w : World) (c : Int) (xs : List Int) (T : List (List Int)) (i : Nat) (v : Value) (wr : World) : Prop where
  ex : ∃ acc cur A n cap, v = .slice A n cap ∧ acc.length + 1 = n ∧ n ≤ i + 1 ∧ cur.length ≤ i ∧ OwnT wr w.heap.size (.slice A n cap) (acc ++ [cur]) ∧ spl c (xs.drop i) acc cur = T ∧ Below w.heap.size w wr
def spV (g n cap k p j : Nat) (S0 SC SX SD : ByteArray) : Nat → Value → World → Prop
  | 0, v, _ => v = .slice (some ⟨g, 0, none⟩) n cap
  | 1, v, _ => v = .slice (some ⟨g, 0, none⟩) n cap
  | 2, v, _ => v = .int .i64 n
  | 3, v, _ => v = .int .i64 k
  | 4, v, _ => v = .pointer (some ⟨g, k, none⟩)
  | 5, v, _ => v = .string SC
  | 6, v, _ => v = .string S0
  | 7, v, _ => v = .int .i64 p
  | 8, v, _ => v = .int .i64 p
  | 9, v, _ => v = .int .i64 j
  | 10, v, _ => v = .string SX
  | 11, v, _ => v = .string SD
  | 12, v, _ => v = .pointer (some ⟨g, k, none⟩)
  | _, _, _ => True
theorem spV.keep (g n cap k p j : Nat) (S0 SC SX SD : ByteArray) (i : Nat) (v : Value) (w w' : World) (hb : Below w.heap.size w w') (h : spV g n cap k p j S0 SC SX SD i v w) : spV g n cap k p j S0 SC SX SD i v w' := by
  unfold spV at h ⊢
  split at h <;> exact h
end Go.Proofs.Ytflfkhcbkhdahaa.adC

/-
  The document's addresses: what Six does.
-/
namespace Go.Proofs.Ytflfkhcbkhdahaa.adC
open Go.ChangeShapes Go.WideShapes Go.ChangeAt Go.RowKit
open Go.Proofs.Ytflfkhcbkhdahaa.memC Go.Proofs.Ytflfkhcbkhdahaa.genC Go.Proofs.Ytflfkhcbkhdahaa.butC Go.Proofs.Ytflfkhcbkhdahaa.freeC
set_option linter.unusedVariables false
def W16 (x : Int) : Prop := 0 ≤ x ∧ x ≤ 65535
section
variable {w0 w : World} {Z : Array Value} {b : List Int} {i p q g gb go n c : Nat} {x hi lo : Int} {m : Nat → Bool} {us : Nat → Value}
end
end Go.Proofs.Ytflfkhcbkhdahaa.adC
