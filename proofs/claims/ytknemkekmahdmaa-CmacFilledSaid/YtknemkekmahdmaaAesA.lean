/-
  AES in memory: arrays of bytes as lists of numbers.
-/
import Derived.Test.YtknemkekmahdmaaAesM
import Derived.Test.YtknemkekmahdmaaEq
import Derived.Test.YtknemkekmahdmaaIdx
import Derived.Test.YtknemkekmahdmaaPart
import Derived.Test.YtknemkekmahdmaaLast
import Derived.Test.YtknemkekmahdmaaFree
import Derived.Great.BuildSlice
import Derived.Deep.CutRange
import Derived.StillTactics
import Derived.StillTailTactics
import Derived.Deep.LoopGhost
import Derived.Deep.WholeRow
import Derived.Deep.Matrix
import Derived.Deep.RegionWith
import Derived.RegionTactic
namespace Go.Proofs.Ytknemkekmahdmaa.aesC
open Go.ChangeShapes Go.WideShapes Go.ChangeAt Go.RowKit
open Go.Proofs.Ytknemkekmahdmaa.memC Go.Proofs.Ytknemkekmahdmaa.genC Go.Proofs.Ytknemkekmahdmaa.aesM
set_option linter.unusedVariables false
/-- an array of bytes as a value -/
def vec (xs : List Nat) : Array Value := (xs.map fun n : Nat => Value.int .u8 (n : Int)).toArray
theorem vec_size (xs : List Nat) : (vec xs).size = xs.length := by simp [vec]
theorem vec_one (xs : List Nat) : (vec xs).all (·.oneCell') = true := by
  rw [Array.all_eq_true_iff_forall_mem]
  intro v hv
  simp [vec] at hv
  obtain ⟨z, _, rfl⟩ := hv
  rfl
theorem vec_at {xs : List Nat} {j : Nat} (hj : j < xs.length) : (vec xs)[j]? = some (.int .u8 ((xs.getD j 0 : Nat) : Int)) := by
  simp [vec, List.getD_eq_getElem?_getD, hj]
/-- block g holds the bytes xs, and nothing else -/
structure Bl (T : TypeId) (w : World) (g : Nat) (xs : List Nat) : Prop where
  row : w.heap[g]? = some (.cells (vec xs) T (0, 0))
section
variable {T : TypeId} {w w' : World} {g : Nat} {xs ys : List Nat}
theorem Bl.lt (h : Bl T w g xs) : g < w.heap.size := by
  rcases Nat.lt_or_ge g w.heap.size with h1 | h1
  · exact h1
  · have := h.row; rw [Array.getElem?_eq_none h1] at this; cases this
theorem Bl.cell (h : Bl T w g xs) {j : Nat} (hj : j < xs.length) : w.cell? ⟨g, j, none⟩ = some (.int .u8 ((xs.getD j 0 : Nat) : Int)) := by
  rw [cell_of_row w g j _ T (0, 0) h.row, vec_at hj]
theorem Bl.frozen (h : Bl T w g xs) (j : Nat) : w.frozen? ⟨g, j, none⟩ = false := frozen_of_row w g j _ T h.row
theorem vec_set (xs : List Nat) (j x : Nat) : (vec xs).setIfInBounds j (.int .u8 (x : Int)) = vec (xs.set j x) := by
  unfold vec
  rw [List.map_set]; simp
theorem Bl.stored (h : Bl T w g xs) (j x : Nat) : Bl T (w.setCell ⟨g, j, none⟩ (.int .u8 (x : Int))) g (xs.set j x) := by
  refine ⟨?_⟩
  rw [heap_setCell_same w g j _ T _ h.row, vec_set]
theorem Bl.other (h : Bl T w g xs) {a : Addr} (ha : a.block ≠ g) (v : Value) : Bl T (w.setCell a v) g xs := ⟨by rw [heap_setCell_other w a g v (fun e => ha e.symm)]; exact h.row⟩
theorem Bl.heap (h : Bl T w g xs) (e : w'.heap = w.heap) : Bl T w' g xs := ⟨by rw [e]; exact h.row⟩
theorem Bl.below {B : Nat} (h : Bl T w g xs) (hb : Below B w w') (hg : g < B) : Bl T w' g xs := ⟨by rw [hb.block g hg]; exact h.row⟩
theorem Bl.alloc (h : Bl T w g xs) (o : Obj) : Bl T (w.alloc o) g xs := h.below (alloc_below w o) h.lt
theorem Bl.new (w : World) (T : TypeId) (xs : List Nat) : Bl T (w.alloc (.cells (vec xs) T)) w.heap.size xs := ⟨heap_alloc_new w _⟩
theorem Bl.setRow (h : Bl T w g xs) : Bl T (w.setRow g (vec ys)) g ys := ⟨setRow_heap _ _ _ _ _ _ h.row⟩
theorem Bl.row_other (h : Bl T w g xs) {k : Nat} (hk : g ≠ k) (cs : Array Value) : Bl T (w.setRow k cs) g xs := ⟨by rw [setRow_other _ _ _ _ hk]; exact h.row⟩
end
theorem below_setRow {B k : Nat} {w w' : World} (h : Below B w w') (hk : B ≤ k) (cs : Array Value) : Below B w (w'.setRow k cs) :=
  h.trans ⟨rfl, rfl, rfl, by simp, fun z hz => setRow_other _ _ _ _ (by omega)⟩
/-- bytes -/
def BY (xs : List Nat) : Prop := ∀ x ∈ xs, x < 256
theorem BY.at {xs : List Nat} (h : BY xs) (j : Nat) : xs.getD j 0 < 256 := by
  rw [List.getD_eq_getElem?_getD]
  rcases Nat.lt_or_ge j xs.length with h1 | h1
  · rw [List.getElem?_eq_getElem h1]; exact h _ (List.getElem_mem _)
  · rw [List.getElem?_eq_none h1]; decide
theorem BY.map {f : Nat → Nat} {n : Nat} (h : ∀ i, i < n → f i < 256) : BY ((List.range n).map f) := by
  intro x hx
  obtain ⟨i, hi, rfl⟩ := List.mem_map.1 hx
  exact h i (List.mem_range.1 hi)
theorem getD_map {f : Nat → Nat} {n j : Nat} (h : j < n) : ((List.range n).map f).getD j 0 = f j := by
  rw [List.getD_eq_getElem?_getD, List.getElem?_map, List.getElem?_range h]; rfl
def zs (n : Nat) : List Nat := List.replicate n 0
theorem zs_len (n : Nat) : (zs n).length = n := List.length_replicate
theorem zs_by (n : Nat) : BY (zs n) := fun x hx => by rw [List.eq_of_mem_replicate hx]; decide
/-- the first j of xs, the others of ys -/
def mixP (xs ys : List Nat) (j : Nat) : List Nat := xs.take j ++ ys.drop j
section
variable {xs ys : List Nat} {j k : Nat}
theorem mixP_len (h : xs.length = ys.length) (j : Nat) : (mixP xs ys j).length = ys.length := by
  unfold mixP; rw [List.length_append, List.length_take, List.length_drop]; omega
theorem mixP_zero (xs ys : List Nat) : mixP xs ys 0 = ys := by unfold mixP; simp
theorem mixP_full (h : xs.length = ys.length) : mixP xs ys ys.length = xs := by
  unfold mixP; rw [List.drop_length, List.append_nil, List.take_of_length_le (by omega)]
theorem mixP_old (h : xs.length = ys.length) (hj : j ≤ k) : (mixP xs ys j).getD k 0 = ys.getD k 0 := by
  rcases Nat.lt_or_ge k ys.length with h1 | h1
  · rw [List.getD_eq_getElem?_getD, List.getD_eq_getElem?_getD]
    unfold mixP
    rw [List.getElem?_append_right (by rw [List.length_take]; omega), List.getElem?_drop, List.length_take]
    congr 2; omega
  · rw [List.getD_eq_getElem?_getD, List.getD_eq_getElem?_getD, List.getElem?_eq_none h1, List.getElem?_eq_none (by rw [mixP_len h]; exact h1)]
theorem mixP_new (h : xs.length = ys.length) (hj : k < j) : (mixP xs ys j).getD k 0 = xs.getD k 0 := by
  rcases Nat.lt_or_ge k xs.length with h1 | h1
  · rw [List.getD_eq_getElem?_getD, List.getD_eq_getElem?_getD]
    unfold mixP
    rw [List.getElem?_append_left (by rw [List.length_take]; omega), List.getElem?_take, if_pos hj]
  · rw [List.getD_eq_getElem?_getD, List.getD_eq_getElem?_getD, List.getElem?_eq_none h1, List.getElem?_eq_none (by rw [mixP_len h]; omega)]
theorem mixP_set (h : xs.length = ys.length) (hj : j < ys.length) : (mixP xs ys j).set j (xs.getD j 0) = mixP xs ys (j + 1) := by
  unfold mixP
  rw [List.set_append_right _ _ (by rw [List.length_take]; omega), List.length_take, show j - min j xs.length = 0 by omega, List.take_succ_eq_append_getElem (by omega : j < xs.length), List.append_assoc,
    List.drop_eq_getElem_cons hj, List.set_cons_zero, List.getD_eq_getElem?_getD, List.getElem?_eq_getElem (by omega)]
  rfl
end
theorem vec_inj {xs ys : List Nat} (h : vec xs = vec ys) : xs = ys := by
  have h2 : (xs.map fun n : Nat => Value.int .u8 (n : Int)) = ys.map fun n : Nat => Value.int .u8 (n : Int) := by simpa [vec] using h
  exact List.map_inj_right (fun a b e => by injection e with _ e; exact Int.ofNat_inj.1 e) |>.1 h2
theorem xor_b {a b : Nat} (ha : a < 256) (hb : b < 256) : bits .xor .u8 (a : Int) (b : Int) = ((a ^^^ b : Nat) : Int) := Go.u8_xor_nat a b ha hb
/-- numbers that are bytes -/
theorem to_nats : ∀ (z : List Int), (∀ x ∈ z, 0 ≤ x ∧ x ≤ 255) → ∃ ns : List Nat, z = ns.map (fun n : Nat => (n : Int)) ∧ BY ns
  | [], _ => ⟨[], rfl, fun x hx => by cases hx⟩
  | x :: z, h => by
    obtain ⟨ns, rfl, hb⟩ := to_nats z fun y hy => h y (List.mem_cons_of_mem _ hy)
    have hx := h x (List.mem_cons_self ..)
    refine ⟨x.toNat :: ns, ?_, ?_⟩
    · rw [List.map_cons]; congr 1; omega
    · intro y hy
      rcases List.mem_cons.1 hy with rfl | hy
      · omega
      · exact hb y hy
theorem vec_of (ns : List Nat) : ((ns.map fun n : Nat => (n : Int)).map (Value.int .u8)).toArray = vec ns := by unfold vec; rw [List.map_map]; rfl
/-- what the calls do -/
def Ret (w : World) (v : Value) (e : Ending) (w' : World) : Prop := e = .returned v ∧ Below w.heap.size w w'
theorem byte_inf : (Try.prog.info? 5).map (fun i => (i.zero, i.size, i.bytes)) = some (some (.int .u8 0), 1, 1) := by kernel_rfl
theorem b16_info : (Try.prog.info? 22).map (·.size) = some 16 := by kernel_rfl
theorem key_info : (Try.prog.info? 39).map (·.size) = some 16 := by kernel_rfl
theorem b4_info : (Try.prog.info? 55).map (·.size) = some 4 := by kernel_rfl
theorem b256_info : (Try.prog.info? 47).map (·.size) = some 256 := by kernel_rfl
theorem b176_info : (Try.prog.info? 49).map (·.size) = some 176 := by kernel_rfl
theorem w176_info : (Try.prog.info? 56).map (·.size) = some 176 := by kernel_rfl
theorem zero_of {P : Program} {T : TypeId} {n : Nat} (h : (P.info? T).map (·.zero) = some (some (.agg (vec (zs n))))) (w : World) : (zeroValue T).run P w = .ok (.agg (vec (zs n))) w := by
  obtain ⟨i, hi, hz⟩ := Option.map_eq_some_iff.1 h
  simp [zeroValue, typeInfo, hi, hz]
theorem zero16 : ∀ w, (zeroValue 22).run Try.prog w = .ok (.agg (vec (zs 16))) w := zero_of (by kernel_rfl)
theorem zeroK : ∀ w, (zeroValue 39).run Try.prog w = .ok (.agg (vec (zs 16))) w := zero_of (by kernel_rfl)
theorem zero4 : ∀ w, (zeroValue 55).run Try.prog w = .ok (.agg (vec (zs 4))) w := zero_of (by kernel_rfl)
theorem zero256 : ∀ w, (zeroValue 47).run Try.prog w = .ok (.agg (vec (zs 256))) w := zero_of (by kernel_rfl)
theorem zero11 : ∀ w, (zeroValue 49).run Try.prog w = .ok (.agg (vec (zs 176))) w := zero_of (by kernel_rfl)
theorem zero44 : ∀ w, (zeroValue 56).run Try.prog w = .ok (.agg (vec (zs 176))) w := zero_of (by kernel_rfl)
end Go.Proofs.Ytknemkekmahdmaa.aesC
