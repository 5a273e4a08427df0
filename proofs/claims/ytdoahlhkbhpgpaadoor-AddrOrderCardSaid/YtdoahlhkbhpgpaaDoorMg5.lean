/-
  15 texts of a proof, joined.
-/
import Derived.Test.YtdoahlhkbhpgpaaDoorMg4
import Derived.StillTailTactics
import Derived.Deep.QuietTactic
import Derived.BigQuiet
import Derived.Deep.CutRange
import Derived.BigRegion
import Derived.Test.YtdoahlhkbhpgpaaDoorMg2
import Derived.Test.YtdoahlhkbhpgpaaDoorMg3
import Derived.Great.BuildSlice

namespace Go.Proofs.YtdoahlhkbhpgpaaDoor.adC
open Go.ChangeShapes Go.WideShapes Go.ChangeAt Go.RowKit
open Go.Proofs.YtdoahlhkbhpgpaaDoor.memC Go.Proofs.YtdoahlhkbhpgpaaDoor.genC Go.Proofs.YtdoahlhkbhpgpaaDoor.butC Go.Proofs.YtdoahlhkbhpgpaaDoor.freeC
set_option linter.unusedVariables false
/-- a number's digits -/
def tenL (n : Nat) : List Int := if h : n < 10 then [48 + (n : Int)] else tenL (n / 10) ++ tenL (n % 10)
termination_by n
decreasing_by all_goals omega
theorem tenL_low {n : Nat} (h : n < 10) : tenL n = [48 + (n : Int)] := by rw [tenL, dif_pos h]
theorem tenL_high {n : Nat} (h : ¬ n < 10) : tenL n = tenL (n / 10) ++ tenL (n % 10) := by rw [tenL, dif_neg h]
theorem tenL_len (n : Nat) : (tenL n).length ≤ n + 1 := by
  induction n using Nat.strongRecOn with
  | _ n ih =>
    by_cases h : n < 10
    · rw [tenL_low h]; simp
    · rw [tenL_high h, List.length_append]
      have h1 := ih (n / 10) (by omega)
      have h2 := ih (n % 10) (by omega)
      omega
theorem tenL_byte (n : Nat) : ∀ x ∈ tenL n, Byte x := by
  induction n using Nat.strongRecOn with
  | _ n ih =>
    by_cases h : n < 10
    · rw [tenL_low h]
      intro x hx
      rw [List.mem_singleton.1 hx]; unfold Byte; omega
    · rw [tenL_high h]
      intro x hx
      rcases List.mem_append.1 hx with h1 | h1
      · exact ih (n / 10) (by omega) x h1
      · exact ih (n % 10) (by omega) x h1
/-- a hex digit -/
def hexD (h : Int) : Int := if h ≤ 9 then 48 + h else 87 + h
def hexL (n : Nat) : List Int := if h : n < 16 then [hexD (n : Int)] else hexL (n / 16) ++ hexL (n % 16)
termination_by n
decreasing_by all_goals omega
theorem hexL_low {n : Nat} (h : n < 16) : hexL n = [hexD (n : Int)] := by rw [hexL, dif_pos h]
theorem hexL_high {n : Nat} (h : ¬ n < 16) : hexL n = hexL (n / 16) ++ hexL (n % 16) := by rw [hexL, dif_neg h]
theorem hexL_len (n : Nat) : (hexL n).length ≤ n + 1 := by
  induction n using Nat.strongRecOn with
  | _ n ih =>
    by_cases h : n < 16
    · rw [hexL_low h]; simp
    · rw [hexL_high h, List.length_append]
      have h1 := ih (n / 16) (by omega)
      have h2 := ih (n % 16) (by omega)
      omega
theorem list16 {h : Int} (h0 : 0 ≤ h) (h1 : h ≤ 15) : h = 0 ∨ h = 1 ∨ h = 2 ∨ h = 3 ∨ h = 4 ∨ h = 5 ∨ h = 6 ∨ h = 7 ∨ h = 8 ∨ h = 9 ∨ h = 10 ∨ h = 11 ∨ h = 12 ∨ h = 13 ∨ h = 14 ∨ h = 15 := by omega
end Go.Proofs.YtdoahlhkbhpgpaaDoor.adC

namespace Go.Proofs.YtdoahlhkbhpgpaaDoor.adC
open Go.ChangeShapes Go.WideShapes Go.ChangeAt Go.RowKit
open Go.Proofs.YtdoahlhkbhpgpaaDoor.memC Go.Proofs.YtdoahlhkbhpgpaaDoor.genC Go.Proofs.YtdoahlhkbhpgpaaDoor.butC Go.Proofs.YtdoahlhkbhpgpaaDoor.freeC
set_option linter.unusedVariables false
/-- the group at a place -/
def gr (b : List Int) (i : Nat) : Nat := (b.getD (2 * i) 0 * 256 + b.getD (2 * i + 1) 0).toNat
theorem gr_is {b : List Int} (hy : ∀ x ∈ b, Byte x) (hl : b.length = 16) {i : Nat} (hi : i < 8) : (gr b i : Int) = b.getD (2 * i) 0 * 256 + b.getD (2 * i + 1) 0 := by
  have h1 := getD_byte hy (k := 2 * i) (by omega)
  have h2 := getD_byte hy (k := 2 * i + 1) (by omega)
  unfold Byte at h1 h2
  unfold gr; omega
theorem gr_lt {b : List Int} (hy : ∀ x ∈ b, Byte x) (hl : b.length = 16) {i : Nat} (hi : i < 8) : gr b i < 65536 := by
  have h1 := getD_byte hy (k := 2 * i) (by omega)
  have h2 := getD_byte hy (k := 2 * i + 1) (by omega)
  have h3 := gr_is hy hl hi
  unfold Byte at h1 h2
  omega
end Go.Proofs.YtdoahlhkbhpgpaaDoor.adC

namespace Go.Proofs.YtdoahlhkbhpgpaaDoor.adC
open Go.ChangeShapes Go.WideShapes Go.ChangeAt Go.RowKit
open Go.Proofs.YtdoahlhkbhpgpaaDoor.memC Go.Proofs.YtdoahlhkbhpgpaaDoor.genC Go.Proofs.YtdoahlhkbhpgpaaDoor.butC Go.Proofs.YtdoahlhkbhpgpaaDoor.freeC
set_option linter.unusedVariables false
end Go.Proofs.YtdoahlhkbhpgpaaDoor.adC

namespace Go.Proofs.YtdoahlhkbhpgpaaDoor.hexM
open Go.Proofs.YtdoahlhkbhpgpaaDoor.memC
set_option linter.unusedVariables false
/-- what a hex digit stands for; 16: it is none -/
def nib (c : Int) : Int := if 48 ≤ c ∧ c ≤ 57 then c - 48 else if 97 ≤ c ∧ c ≤ 102 then c - 87 else if 65 ≤ c ∧ c ≤ 70 then c - 55 else 16
theorem nib_bd (c : Int) : 0 ≤ nib c ∧ nib c ≤ 16 := by unfold nib; split <;> (try split) <;> (try split) <;> omega
/-- the small digit of a number below 16 -/
def hexD (x : Int) : Int := if x < 10 then x + 48 else x + 87
def hexL (bs : List Int) : List Int := bs.flatMap fun b => [hexD (b / 16), hexD (b % 16)]
theorem hexL_len (bs : List Int) : (hexL bs).length = 2 * bs.length := by
  induction bs with
  | nil => rfl
  | cons b bs ih => rw [hexL, List.flatMap_cons, List.length_append, List.length_cons]; rw [hexL] at ih; rw [ih]; simp; omega
/-- a text's signs -/
def strL (s : ByteArray) : List Int := s.data.toList.map fun c => (c.toNat : Int)
theorem strL_of (xs : List Int) (h : ∀ x ∈ xs, 0 ≤ x ∧ x ≤ 255) : strL (strOfNums xs) = xs := by
  unfold strL
  rw [strOfNums_data, List.map_map]
  have : ∀ x ∈ xs, ((fun c : UInt8 => (c.toNat : Int)) ∘ fun n : Int => UInt8.ofNat n.toNat) x = x := by
    intro x hx
    have := h x hx
    simp only [Function.comp, UInt8.toNat_ofNat']
    omega
  rw [List.map_congr_left this]; simp
theorem of_strL (s : ByteArray) : strOfNums (strL s) = s := by
  unfold strOfNums strL
  rw [List.map_map]
  have : ((fun n : Int => UInt8.ofNat n.toNat) ∘ fun c : UInt8 => (c.toNat : Int)) = id := by
    funext c; simp
  rw [this]; simp
theorem strL_get (s : ByteArray) (i : Nat) (h : i < s.size) : (strL s)[i]? = some ((s[i]).toNat : Int) := by
  unfold strL
  rw [List.getElem?_map, List.getElem?_eq_getElem (by rw [Array.length_toList]; exact h)]
  rfl
end Go.Proofs.YtdoahlhkbhpgpaaDoor.hexM

namespace Go.Proofs.YtdoahlhkbhpgpaaDoor.adC
open Go.ChangeShapes Go.WideShapes Go.ChangeAt Go.RowKit
open Go.Proofs.YtdoahlhkbhpgpaaDoor.memC Go.Proofs.YtdoahlhkbhpgpaaDoor.genC Go.Proofs.YtdoahlhkbhpgpaaDoor.butC Go.Proofs.YtdoahlhkbhpgpaaDoor.freeC
open Go.Proofs.YtdoahlhkbhpgpaaDoor.hexM (strL strL_of of_strL strL_get)
set_option linter.unusedVariables false
section
variable {P : Program} {ops : Array Oper} {rest : List Oper} {o : Oper} {a : Act} {Q : Exit → Act → World → Prop}
/-- an operation, behind a guard that says yes or behind none, whose value is known -/
theorem wpList_runG {w : World} (hw : Region.wanted o (yielded ops a.tmps) = true) (v : Value) (hr : (execOp a.eval o).run P w = .ok (.value v) w) (h : wpList P ops Q rest (a.put o.dst v) w) : wpList P ops Q (o :: rest) a w := by
  refine wpList_step fun K hK => ?_
  rw [if_pos hw]
  unfold Oper.wp
  rw [hr]
  exact hK _ _ h
theorem index_run {w : World} {T : TypeId} {s x : Operand} {S : ByteArray} {z c : Int} (ho : o.op = .index T s x) (hs : a.eval s = .string S) (hx : a.eval x = .int .i64 z)
    (hq : (Instr.index T (.string S) (.int .i64 z)).run P w = .ok (.int .u8 c) w) : (execOp a.eval o).run P w = .ok (.value (.int .u8 c)) w := by
  unfold execOp
  rw [ho]
  simp only [hs, hx, Sem.run_bind, hq, Result.andThen_ok, Sem.run_pure]
end
/-- a byte of a text -/
theorem str_at {xs : List Int} (hy : ∀ x ∈ xs, Byte x) {i : Nat} (hi : i < xs.length) {z : Int} (hz : z = (i : Int)) (w : World) : (Instr.index 9 (.string (strOfNums xs)) (.int .i64 z)).run Tryd.prog w = .ok (.int .u8 (xs.getD i 0)) w := by
  subst hz
  have hsz : i < (strOfNums xs).size := by rw [strOfNums_size]; exact hi
  rw [run_index_string w _ _ _ _ Tryd.underlying9, dif_pos ⟨by omega, by omega⟩]
  have h1 := strL_get (strOfNums xs) i hsz
  rw [strL_of xs hy, List.getElem?_eq_getElem hi] at h1
  have h2 := Option.some.inj h1
  rw [List.getD_eq_getElem?_getD, List.getElem?_eq_getElem hi]
  simp only [Option.getD_some]
  rw [h2]
  rfl
theorem str_emp (xs : List Int) : (strOfNums xs).toList = [] ↔ xs = [] := by rw [ByteArray.toList_eq, strOfNums_data]; simp
end Go.Proofs.YtdoahlhkbhpgpaaDoor.adC

namespace Go.Proofs.YtdoahlhkbhpgpaaDoor.txC
open Go.ChangeShapes Go.WideShapes Go.ChangeAt Go.RowKit
open Go.Proofs.YtdoahlhkbhpgpaaDoor.memC Go.Proofs.YtdoahlhkbhpgpaaDoor.genC
set_option linter.unusedVariables false
def txts (ls : List (List Int)) : List Value := ls.map fun l => Value.string (strOfNums l)
def OwnT (w : World) (base : Nat) (v : Value) (ls : List (List Int)) : Prop := w.ownsRow base 9 1 v ls.length (txts ls)
theorem txts_len (ls : List (List Int)) : (txts ls).length = ls.length := by simp [txts]
theorem txts_one (ls : List (List Int)) : ∀ u ∈ txts ls, u.oneCell' = true := by
  intro u hu
  obtain ⟨l, _, rfl⟩ := List.mem_map.1 hu
  rfl
theorem string_inf : (Tryd.prog.info? 9).map (fun i => (i.zero, i.size, i.bytes)) = some (some (.string { data := #[] }), 1, 16) := by kernel_rfl
section
variable {w w' : World} {base B : Nat} {v : Value} {ls : List (List Int)}
theorem OwnT.blk (h : OwnT w base v ls) : ∀ g, v.ownBlock = some g → base ≤ g ∧ g < w.heap.size := fun g hg => h.lt g hg
theorem OwnT.form (h : OwnT w base v ls) : ∃ A cap, v = .slice A ls.length cap ∧ ls.length ≤ cap ∧ cap ≤ maxLen := by
  rcases h.2 with ⟨rfl, h0⟩ | ⟨g, cap, cur, rfl, hb, hh, hl, hm, hs, ht⟩
  · rw [h0]; exact ⟨none, 0, rfl, Nat.le_refl _, by simp [maxLen]⟩
  · exact ⟨some ⟨g, 0, none⟩, cap, rfl, hl, hm⟩
theorem OwnT.keep (h : OwnT w base v ls) (hk : ∀ g, base ≤ g → g < w.heap.size → w'.heap[g]? = w.heap[g]?) : OwnT w' base v ls := by
  refine ⟨h.1, ?_⟩
  rcases h.2 with h0 | ⟨g, cap, cur, rfl, hb, hh, h'⟩
  · exact .inl h0
  · exact .inr ⟨g, cap, cur, rfl, hb, (hk g hb (h.lt g rfl).2).trans hh, h'⟩
theorem OwnT.alloc (h : OwnT w base v ls) (o : Obj) : OwnT (w.alloc o) base v ls := World.ownsRow.alloc h o
theorem OwnT.below (h : OwnT w base v ls) (hb : Below w.heap.size w w') : OwnT w' base v ls := h.keep fun g _ hg => hb.block g hg
theorem OwnT.less (h : OwnT w base v ls) (hB : B ≤ base) : OwnT w B v ls := by
  refine ⟨h.1, ?_⟩
  rcases h.2 with h0 | ⟨g, cap, cur, rfl, hb, hh, h'⟩
  · exact .inl h0
  · exact .inr ⟨g, cap, cur, rfl, Nat.le_trans hB hb, hh, h'⟩
theorem OwnT.lit (w : World) (hb : base ≤ w.heap.size) (l : List Int) : OwnT (w.alloc (.cells #[.string (strOfNums l)] 9)) base (.slice (some ⟨w.heap.size, 0, none⟩) 1 1) [l] :=
  World.ownsRow_lit w #[.string (strOfNums l)] 1 hb (by simp [maxLen]) rfl
theorem OwnT.row {A : Option Addr} {n c : Nat} (h : OwnT w base (.slice A n c) ls) (hl : ls.length = n) (hn : 0 < n) :
    ∃ g, A = some ⟨g, 0, none⟩ ∧ base ≤ g ∧ g < w.heap.size ∧ (∀ j, j < n → w.cell? ⟨g, j, none⟩ = some (.string (strOfNums (ls.getD j [])))) ∧ ∀ j, w.frozen? ⟨g, j, none⟩ = false := by
  have hk := h.blk
  unfold OwnT at h
  rw [hl] at h
  rcases h.2 with ⟨e2, h0⟩ | ⟨g, cap, cur, e2, hb, hh, h3⟩
  · cases e2; omega
  · cases e2
    refine ⟨g, rfl, hb, (hk g rfl).2, fun j hj => ?_, fun j => World.ownsRow.frozenAt h j⟩
    rw [World.ownsRow.cellAt h j (by omega)]
    simp [txts, List.getD_eq_getElem?_getD, hl, hj]
theorem OwnT.stored {g n c : Nat} (h : OwnT w base (.slice (some ⟨g, 0, none⟩) n c) ls) (hl : ls.length = n) (j : Nat) (l : List Int) :
    OwnT (w.setCell ⟨g, j, none⟩ (.string (strOfNums l))) base (.slice (some ⟨g, 0, none⟩) n c) (ls.set j l) := by
  unfold OwnT at h ⊢
  rw [List.length_set]
  unfold txts at h ⊢
  rw [List.map_set]
  rw [hl] at h ⊢
  exact (World.ownsRow.stored h j (.string (strOfNums l))).1
end
section
variable {P : Program} {ops : Array Oper} {rest : List Oper} {o : Oper} {a : Act} {Q : Exit → Act → World → Prop}
/-- append(own, text): the literal's cell has just been laid -/
theorem wpList_txt (w : World) (hgd : o.guard = none) (s x : Operand) (t : TypeId)
    (ho : o.op = .call { callee := .builtin .append, args := #[s, x], argTypes := #[t, t] })
    (i : TypeInfo) (z : Value) (bytes : Nat) (ht : P.underlying t = some (.slice 9)) (hi : P.info? 9 = some i) (hz : i.zero = some z)
    (hsize : i.size = 1) (hby : i.bytes = bytes) (hzs : z.cells.size = 1) (base : Nat) (v : Value) (ls : List (List Int)) (hs : a.eval s = v) (hown : OwnT w base v ls)
    (S : ByteArray) (l : List Int) (hS : S = strOfNums l) (hx : a.eval x = .slice (some ⟨w.heap.size, 0, none⟩) 1 1) (h63 : ls.length + 1 ≤ maxLen) (hbytes : (ls.length + 1) * bytes ≤ 140737488355328) (hbase : base ≤ w.heap.size) (L : Nat) (hL : ls.length + 1 = L)
    (h : ∀ A' c' w', L ≤ c' → c' ≤ maxLen → OwnT w' base (.slice A' L c') (ls ++ [l]) → Below base w w' → wpList P ops Q rest (a.put o.dst (.slice A' L c')) w') : wpList P ops Q (o :: rest) a (w.alloc (.cells #[.string S] 9)) := by
  subst hS
  have hsz : (w.alloc (.cells #[.string (strOfNums l)] 9)).heap.size = w.heap.size + 1 := by simp
  obtain ⟨v', w', hrun, h2, h3, _⟩ := run_append_own (P := P) (w.alloc (.cells #[.string (strOfNums l)] 9)) base t o.type 9 i z 1 bytes ht hi hz hsize hby hzs (by omega) v _ _ (hown.alloc _) ⟨w.heap.size, 0, none⟩ 1 1 (txts [l]) (by simp [txts]) (by
    intro j u hu
    have hj : j = 0 := by
      have := (List.getElem?_eq_some_iff.1 hu).1
      rw [txts_len] at this; simp at this; exact this
    subst hj
    have : u = .string (strOfNums l) := by simpa [txts] using hu.symm
    subst this
    simp [go_sem]) (txts_one _) h63 hbytes (by omega)
  have O : OwnT w' base v' (ls ++ [l]) := by
    unfold OwnT
    rw [List.length_append]
    unfold txts at h2 ⊢
    rw [List.map_append]
    exact h2
  have eL : (ls ++ [l]).length = L := by rw [List.length_append]; exact hL
  obtain ⟨A', c', e2, g1, g2⟩ := O.form
  rw [eL] at e2 g1
  subst e2
  have hh := h A' c' w' g1 g2 O (((Below.refl _ _).alloc hbase _).grown h3 (by omega) fun g hg => (hown.blk g hg).1)
  refine wpList_plain hgd fun K hK => ?_
  unfold Oper.wp execOp
  simp only [ho, resolve, invoke, builtin, Sem.run_bind, Sem.run_pure, Result.andThen_ok, List.map_toArray, List.map_cons, List.map_nil, hs, hx, hrun]
  exact hK _ _ hh
end
end Go.Proofs.YtdoahlhkbhpgpaaDoor.txC

namespace Go.Proofs.YtdoahlhkbhpgpaaDoor.lastC
open Go.ChangeShapes Go.WideShapes Go.ChangeAt Go.RowKit
set_option linter.unusedVariables false
section
variable {P : Program} {L l : List Oper} {o : Oper} {C : World → Prop}
/-- the marks of the whole region, and of its head -/
structure Marks (n : Nat) (m mh : Array Bool) : Prop where
  size : m.size = n + 1
  sizeh : mh.size = n
  same : ∀ i, i < n → m[i]? = mh[i]?
  last : m[n]? = some false
theorem Marks.set {n i : Nat} {m mh : Array Bool} (h : Marks n m mh) (hi : i < n) : Marks n (m.setIfInBounds i true) (mh.setIfInBounds i true) := by
  refine ⟨by simp [h.size], by simp [h.sizeh], fun j hj => ?_, ?_⟩
  · simp only [Array.getElem?_setIfInBounds]
    split
    · rename_i e; subst e; simp [h.size, h.sizeh, hi]; omega
    · exact h.same j hj
  · simp only [Array.getElem?_setIfInBounds]
    rw [if_neg (by omega)]; exact h.last
theorem Marks.getD {n i : Nat} {m mh : Array Bool} (h : Marks n m mh) (hi : i < n) (d : Bool) : m.getD i d = mh.getD i d := by
  have := h.same i hi
  simp only [Array.getD_eq_getD_getElem?, this]
variable {m mh : Array Bool} {n : Nat}
variable {Q : Exit → Act → World → Prop} {a : Act} {w : World}
end
end Go.Proofs.YtdoahlhkbhpgpaaDoor.lastC

namespace Go.Proofs.YtdoahlhkbhpgpaaDoor.freeC
open Go.ChangeShapes Go.WideShapes Go.ChangeAt Go.RowKit
open Go.Proofs.YtdoahlhkbhpgpaaDoor.lastC
set_option linter.unusedVariables false
section
variable {P : Program} {L : List Oper} {Q : Exit → Act → World → Prop}
end
end Go.Proofs.YtdoahlhkbhpgpaaDoor.freeC

namespace Go.Proofs.YtdoahlhkbhpgpaaDoor.freeC
open Go.ChangeShapes Go.WideShapes Go.ChangeAt Go.RowKit
set_option linter.unusedVariables false
section
variable {P : Program} {L : List Oper} {Q : Exit → Act → World → Prop}
end
end Go.Proofs.YtdoahlhkbhpgpaaDoor.freeC

namespace Go.Proofs.YtdoahlhkbhpgpaaDoor.adC
open Go.ChangeShapes Go.WideShapes Go.ChangeAt Go.RowKit
open Go.Proofs.YtdoahlhkbhpgpaaDoor.memC Go.Proofs.YtdoahlhkbhpgpaaDoor.genC Go.Proofs.YtdoahlhkbhpgpaaDoor.butC Go.Proofs.YtdoahlhkbhpgpaaDoor.freeC Go.Proofs.YtdoahlhkbhpgpaaDoor.txC
set_option linter.unusedVariables false
/-- the parts between bytes c: those that there are, and the one that is under way -/
def spl (c : Int) : List Int → List (List Int) → List Int → List (List Int)
  | [], acc, cur => acc ++ [cur]
  | x :: r, acc, cur => if x = c then spl c r (acc ++ [cur]) [] else spl c r acc (cur ++ [x])
def splL (c : Int) (xs : List Int) : List (List Int) := spl c xs [] []
theorem spl_len (c : Int) : ∀ xs acc cur, (spl c xs acc cur).length ≤ acc.length + xs.length + 1
  | [], acc, cur => by simp [spl]
  | x :: r, acc, cur => by
    unfold spl
    split
    · have := spl_len c r (acc ++ [cur]) []; simp at this ⊢; omega
    · have := spl_len c r acc (cur ++ [x]); simp at this ⊢; omega
theorem spl_one (c : Int) : ∀ xs acc cur, acc.length < (spl c xs acc cur).length
  | [], acc, cur => by simp [spl]
  | x :: r, acc, cur => by
    unfold spl
    split
    · have := spl_one c r (acc ++ [cur]) []; simp at this; omega
    · exact spl_one c r acc (cur ++ [x])
theorem splL_len (c : Int) (xs : List Int) : (splL c xs).length ≤ xs.length + 1 := by have := spl_len c xs [] []; simpa [splL] using this
theorem splL_pos (c : Int) (xs : List Int) : 0 < (splL c xs).length := spl_one c xs [] []
/-- the state of the loop -/
structure SX (w : World) (c : Int) (xs : List Int) (T : List (List Int)) (i : Nat) (v : Value) (wr : World) : Prop where
  ex : ∃ acc cur A n cap, v = .slice A n cap ∧ acc.length + 1 = n ∧ n ≤ i + 1 ∧ cur.length ≤ i ∧ OwnT wr w.heap.size (.slice A n cap) (acc ++ [cur]) ∧ spl c (xs.drop i) acc cur = T ∧ Below w.heap.size w wr
def SplRet (w : World) (T : List (List Int)) (e : Ending) (w' : World) : Prop := ∃ A n cap, e = .returned (.slice A n cap) ∧ T.length = n ∧ OwnT w' w.heap.size (.slice A n cap) T ∧ Below w.heap.size w w'
def spV (g n cap k p j : Nat) (S0 SC SX SD : ByteArray) : Nat → Value → World → Prop
  | 0, v, _ => v = .slice (some ⟨g, 0, none⟩) n cap
  | 1, v, _ => v = .slice (some ⟨g, 0, none⟩) n cap
  | 2, v, _ => v = .int .i64 n
  | 3, v, _ => v = .int .i64 k
  | 4, v, _ => v = .pointer (some ⟨g, k, none⟩)
  | 5, v, _ => v = .string SC
  | 6, v, _ => v = .string S0
  | 7, v, _ => v = .int .i64 p
  | 8, v, _ => v = .int .i64 p
  | 9, v, _ => v = .int .i64 j
  | 10, v, _ => v = .string SX
  | 11, v, _ => v = .string SD
  | 12, v, _ => v = .pointer (some ⟨g, k, none⟩)
  | _, _, _ => True
theorem spV.keep (g n cap k p j : Nat) (S0 SC SX SD : ByteArray) (i : Nat) (v : Value) (w w' : World) (hb : Below w.heap.size w w') (h : spV g n cap k p j S0 SC SX SD i v w) : spV g n cap k p j S0 SC SX SD i v w' := by
  unfold spV at h ⊢
  split at h <;> exact h
end Go.Proofs.YtdoahlhkbhpgpaaDoor.adC

namespace Go.Proofs.YtdoahlhkbhpgpaaDoor.adC
open Go.ChangeShapes Go.WideShapes Go.ChangeAt Go.RowKit
open Go.Proofs.YtdoahlhkbhpgpaaDoor.memC Go.Proofs.YtdoahlhkbhpgpaaDoor.genC Go.Proofs.YtdoahlhkbhpgpaaDoor.butC Go.Proofs.YtdoahlhkbhpgpaaDoor.freeC
open Go.Proofs.YtdoahlhkbhpgpaaDoor.hexM (strL strL_of of_strL strL_get nib nib_bd)
set_option linter.unusedVariables false
/-- the number from n on whose text it is; -1: there is none -/
def bofF (xs : List Int) : Nat → Nat → Int
  | 0, _ => -1
  | f + 1, n => if tenL n = xs then n else bofF xs f (n + 1)
def bofL (xs : List Int) : Int := bofF xs 256 0
theorem bofF_le (xs : List Int) : ∀ f n, f + n ≤ 256 → -1 ≤ bofF xs f n ∧ bofF xs f n ≤ 255
  | 0, n, h => by unfold bofF; omega
  | f + 1, n, h => by
    unfold bofF
    split
    · omega
    · exact bofF_le xs f (n + 1) (by omega)
theorem bofL_le (xs : List Int) : -1 ≤ bofL xs ∧ bofL xs ≤ 255 := bofF_le xs 256 0 (by omega)
/-- the group of a text -/
def gofF : List Int → Nat → Int
  | [], n => n
  | x :: r, n => if nib x ≤ 15 then gofF r (n * 16 + (nib x).toNat) else -1
def gofL (xs : List Int) : Int := if xs.length < 1 ∨ 4 < xs.length then -1 else gofF xs 0
theorem gofF_le : ∀ (xs : List Int) (n k : Nat), n < 16 ^ k → -1 ≤ gofF xs n ∧ gofF xs n < 16 ^ (k + xs.length)
  | [], n, k, h => by
    unfold gofF
    have : ((16 ^ k : Nat) : Int) = (16 : Int) ^ k := by push_cast; rfl
    simp only [List.length_nil, Nat.add_zero]
    omega
  | x :: r, n, k, h => by
    unfold gofF
    have hb := nib_bd x
    split
    · have h1 : n * 16 + (nib x).toNat < 16 ^ (k + 1) := by rw [Nat.pow_succ]; omega
      have h2 := gofF_le r _ _ h1
      rwa [show k + 1 + r.length = k + (x :: r).length by simp; omega] at h2
    · have : (0 : Int) < (16 : Int) ^ (k + (x :: r).length) := Int.pow_pos (by decide)
      omega
theorem gofL_le (xs : List Int) : -1 ≤ gofL xs ∧ gofL xs ≤ 65535 := by
  unfold gofL
  split
  · omega
  · rename_i h
    have h1 := gofF_le xs 0 0 (by decide)
    have h2 : (16 : Int) ^ (0 + xs.length) ≤ 65536 := by
      rw [Nat.zero_add]
      have h3 : xs.length = 1 ∨ xs.length = 2 ∨ xs.length = 3 ∨ xs.length = 4 := by omega
      rcases h3 with h | h | h | h <;> rw [h] <;> decide
    omega
end Go.Proofs.YtdoahlhkbhpgpaaDoor.adC

namespace Go.Proofs.YtdoahlhkbhpgpaaDoor.adC
open Go.ChangeShapes Go.WideShapes Go.ChangeAt Go.RowKit
open Go.Proofs.YtdoahlhkbhpgpaaDoor.memC Go.Proofs.YtdoahlhkbhpgpaaDoor.genC Go.Proofs.YtdoahlhkbhpgpaaDoor.butC Go.Proofs.YtdoahlhkbhpgpaaDoor.freeC
open Go.Proofs.YtdoahlhkbhpgpaaDoor.hexM (strL strL_of of_strL strL_get nib nib_bd)
set_option linter.unusedVariables false
theorem pow_small {i n : Nat} (h : n < 16 ^ i) (hi : i ≤ 3) : n ≤ 4095 := by
  have h3 : i = 0 ∨ i = 1 ∨ i = 2 ∨ i = 3 := by omega
  rcases h3 with rfl | rfl | rfl | rfl <;> omega
end Go.Proofs.YtdoahlhkbhpgpaaDoor.adC

namespace Go.Proofs.YtdoahlhkbhpgpaaDoor.adC
open Go.ChangeShapes Go.WideShapes Go.ChangeAt Go.RowKit
open Go.Proofs.YtdoahlhkbhpgpaaDoor.memC Go.Proofs.YtdoahlhkbhpgpaaDoor.genC Go.Proofs.YtdoahlhkbhpgpaaDoor.butC Go.Proofs.YtdoahlhkbhpgpaaDoor.freeC
set_option linter.unusedVariables false
/-- the bytes of groups, up to the j-th -/
def sixT (gs : List Int) : Nat → List Int
  | 0 => zs 16
  | j + 1 => ((sixT gs j).set (2 * j) (gs.getD j 0 / 256)).set (2 * j + 1) (gs.getD j 0 % 256)
def sixB (gs : List Int) : List Int := sixT gs (min 8 gs.length)
theorem sixT_len (gs : List Int) : ∀ j, (sixT gs j).length = 16
  | 0 => zs_len 16
  | j + 1 => by unfold sixT; rw [List.length_set, List.length_set, sixT_len gs j]
theorem sixB_len (gs : List Int) : (sixB gs).length = 16 := sixT_len _ _
def W16 (x : Int) : Prop := 0 ≤ x ∧ x ≤ 65535
section
variable {w0 w : World} {Z : Array Value} {b : List Int} {i p q g gb go n c : Nat} {x hi lo : Int} {m : Nat → Bool} {us : Nat → Value}
end
end Go.Proofs.YtdoahlhkbhpgpaaDoor.adC

namespace Go.Proofs.YtdoahlhkbhpgpaaDoor.adC
open Go.ChangeShapes Go.WideShapes Go.ChangeAt Go.RowKit
open Go.Proofs.YtdoahlhkbhpgpaaDoor.memC Go.Proofs.YtdoahlhkbhpgpaaDoor.genC Go.Proofs.YtdoahlhkbhpgpaaDoor.butC Go.Proofs.YtdoahlhkbhpgpaaDoor.freeC Go.Proofs.YtdoahlhkbhpgpaaDoor.txC
set_option linter.unusedVariables false
theorem word_inf : (Tryd.prog.info? 46).map (fun i => (i.zero, i.size, i.bytes)) = some (some (.int .u16 0), 1, 2) := by kernel_rfl
/-- the groups of parts, behind those that there are; none: one is no group -/
def gacc : List (List Int) → List Int → Option (List Int)
  | [], acc => some acc
  | l :: r, acc => if gofL l < 0 then none else gacc r (acc ++ [gofL l])
theorem gacc_ok : ∀ (ls : List (List Int)) (acc gs : List Int), gacc ls acc = some gs → (∀ x ∈ acc, W16 x) → (∀ x ∈ gs, W16 x) ∧ gs.length = acc.length + ls.length
  | [], acc, gs, h, ha => by
    have : acc = gs := Option.some.inj h
    subst this
    exact ⟨ha, rfl⟩
  | l :: r, acc, gs, h, ha => by
    unfold gacc at h
    split at h
    · cases h
    · rename_i hn
      have hb := gofL_le l
      obtain ⟨h1, h2⟩ := gacc_ok r _ gs h fun x hx => by
        rcases List.mem_append.1 hx with h3 | h3
        · exact ha x h3
        · rw [List.mem_singleton.1 h3]; unfold W16; omega
      refine ⟨h1, ?_⟩
      rw [h2, List.length_append]; simp; omega
def GrsRet (w : World) (o : Option (List Int)) (e : Ending) (w' : World) : Prop :=
  match o with
  | some gs => ∃ A n c, e = .returned (.tuple #[.slice A n c, .bool true]) ∧ gs.length = n ∧ n ≤ c ∧ c ≤ maxLen ∧ Own .u16 46 w' w.heap.size (.slice A n c) gs ∧ Below w.heap.size w w'
  | none => e = .returned (.tuple #[.slice none 0 0, .bool false]) ∧ Below w.heap.size w w'
end Go.Proofs.YtdoahlhkbhpgpaaDoor.adC

namespace Go.Proofs.YtdoahlhkbhpgpaaDoor.adC
open Go.ChangeShapes Go.WideShapes Go.ChangeAt Go.RowKit
open Go.Proofs.YtdoahlhkbhpgpaaDoor.memC Go.Proofs.YtdoahlhkbhpgpaaDoor.genC Go.Proofs.YtdoahlhkbhpgpaaDoor.butC Go.Proofs.YtdoahlhkbhpgpaaDoor.freeC Go.Proofs.YtdoahlhkbhpgpaaDoor.txC
set_option linter.unusedVariables false
section
variable {P : Program} {o : Oper} {a : Act} {w : World} {T : TypeId} {s x y : Operand} {S S' : ByteArray} {v : Value} {l h : Int}
end
/-- what a reading answers -/
def PrsRet (w : World) (o : Option (Bool × List Int)) (e : Ending) (w' : World) : Prop :=
  (match o with
  | some (s, b) => e = .returned (.tuple #[.agg (adrV s b), .int .i64 0])
  | none => e = .returned (.tuple #[.agg zAdr, .int .i64 3])) ∧ Below w.heap.size w w'
end Go.Proofs.YtdoahlhkbhpgpaaDoor.adC
