/-
  AES: all round keys, over numbers; New.
-/
import Derived.Test.YtknemkekmahdmaaAesH
namespace Go.Proofs.Ytknemkekmahdmaa.aesC
open Go.ChangeShapes Go.WideShapes Go.ChangeAt Go.RowKit
open Go.Proofs.Ytknemkekmahdmaa.memC Go.Proofs.Ytknemkekmahdmaa.genC Go.Proofs.Ytknemkekmahdmaa.aesM Go.Proofs.Ytknemkekmahdmaa.freeC
set_option linter.unusedVariables false
theorem list16 {α : Type} {l : List α} (h : l.length = 16) : ∃ a b c d e f g i j k m n o p q r, l = [a, b, c, d, e, f, g, i, j, k, m, n, o, p, q, r] := by
  match l, h with
  | [a, b, c, d, e, f, g, i, j, k, m, n, o, p, q, r], _ => exact ⟨a, b, c, d, e, f, g, i, j, k, m, n, o, p, q, r, rfl⟩
theorem built_key {xs : List Nat} (h : xs.length = 16) : Try.prog.built 39 [(0, .agg (vec xs))] = some (vec xs) := by
  obtain ⟨a, b, c, d, e, f, g, i, j, k, m, n, o, p, q, r, rfl⟩ := list16 h
  kernel_rfl
/-- what the first byte of a fourth column is turned by -/
def rc : Nat → Nat
  | 0 => 1
  | n + 1 => dbl (rc n)
theorem rc_lt : ∀ n, rc n < 256
  | 0 => by show 1 < 256; decide
  | n + 1 => dbl_lt (rc_lt n)
/-- the round keys -/
def rk (k : List Nat) : Nat → List Nat
  | 0 => k
  | n + 1 => nxt (rk k n) (rc n)
theorem rk_ok {k : List Nat} (hk : BY k) (hl : k.length = 16) : ∀ n, BY (rk k n) ∧ (rk k n).length = 16
  | 0 => ⟨hk, hl⟩
  | n + 1 => by
    obtain ⟨h1, h2⟩ := rk_ok hk hl n
    exact ⟨nxt_by h1 h2 (rc_lt n), nxt_len h1 h2 (rc_lt n)⟩
/-- all of them -/
def FL (k : List Nat) : List Nat := (List.range 176).map fun j => (rk k (j / 16)).getD (j % 16) 0
theorem FL_len (k : List Nat) : (FL k).length = 176 := by simp [FL]
theorem FL_at {k : List Nat} {j : Nat} (h : j < 176) : (FL k).getD j 0 = (rk k (j / 16)).getD (j % 16) 0 := getD_map h
theorem FL_at16 {k : List Nat} {n j : Nat} (h : n < 11) (hj : j < 16) : (FL k).getD (16 * n + j) 0 = (rk k n).getD j 0 := by
  rw [FL_at (by omega), show (16 * n + j) / 16 = n by omega, show (16 * n + j) % 16 = j by omega]
theorem getD_eq {xs : List Nat} {j : Nat} (h : j < xs.length) : xs[j]? = some (xs.getD j 0) := by
  rw [List.getD_eq_getElem?_getD, List.getElem?_eq_getElem h]; rfl
theorem FL_win {k : List Nat} (hk : BY k) (hl : k.length = 16) {n : Nat} (h : n < 11) : ((FL k).drop (16 * n)).take 16 = rk k n := by
  have hr := (rk_ok hk hl n).2
  apply List.ext_getElem?
  intro j
  by_cases hj : j < 16
  · rw [List.getElem?_take, if_pos hj, List.getElem?_drop, getD_eq (by rw [FL_len]; omega), FL_at16 h hj, getD_eq (by rw [hr]; exact hj)]
  · rw [List.getElem?_eq_none (by rw [List.length_take]; omega), List.getElem?_eq_none (by rw [hr]; omega)]
theorem FL_take {k : List Nat} (hk : BY k) (hl : k.length = 16) {n : Nat} (h : n < 11) : (FL k).take (16 * n + 16) = (FL k).take (16 * n) ++ rk k n := by
  rw [List.take_add, FL_win hk hl h]
theorem FL_by {k : List Nat} (hk : BY k) (hl : k.length = 16) : BY (FL k) := BY.map fun i _ => (rk_ok hk hl _).1.at _
theorem FL_first {k : List Nat} (hk : BY k) (hl : k.length = 16) : k ++ zs 160 = mixP (FL k) (zs 176) 16 := by
  unfold mixP
  have := FL_take hk hl (n := 0) (by omega)
  simp only [Nat.mul_zero, Nat.zero_add, List.take_zero, List.nil_append] at this
  rw [this]
  show rk k 0 ++ zs 160 = rk k 0 ++ List.drop 16 (List.replicate 176 0)
  rw [List.drop_replicate]
  rfl
/-- a round key goes in -/
theorem FL_put {k : List Nat} (hk : BY k) (hl : k.length = 16) {n : Nat} (h : n < 11) (ys : List Nat) (hy : ys.length = 176) :
    (mixP (FL k) ys (16 * n)).take (16 * n) ++ rk k n ++ (mixP (FL k) ys (16 * n)).drop (16 * n + 16) = mixP (FL k) ys (16 * n + 16) := by
  have hlt : ((FL k).take (16 * n)).length = 16 * n := by rw [List.length_take, FL_len]; omega
  have e1 : (mixP (FL k) ys (16 * n)).take (16 * n) = (FL k).take (16 * n) := by unfold mixP; rw [List.take_append_of_le_length (by omega), List.take_of_length_le (by omega)]
  have e2 : (mixP (FL k) ys (16 * n)).drop (16 * n + 16) = ys.drop (16 * n + 16) := by
    unfold mixP
    rw [List.drop_append, List.drop_eq_nil_of_le (by omega), List.nil_append, hlt, List.drop_drop]
    congr 1; omega
  rw [e1, e2]
  unfold mixP
  rw [FL_take hk hl h]
theorem built_all {xs : List Nat} (h : xs.length = 16) : Try.prog.built 49 [(0, .agg (vec xs))] = some (vec (xs ++ zs 160)) := by
  obtain ⟨a, b, c, d, e, f, g, i, j, k, m, n, o, p, q, r, rfl⟩ := list16 h
  kernel_rfl
theorem wpList_built {P : Program} {ops : Array Oper} {rest : List Oper} {o : Oper} {a : Act} {w : World} {Q : Exit → Act → World → Prop} (hg : o.guard = none) (t : TypeId) (i : Nat) (x : Operand) (ho : o.op = .build t #[(i, x)])
    (v : Value) (hx : a.eval x = v) (cells : Array Value) (hf : P.built t [(i, v)] = some cells)
    (h : wpList P ops Q rest (a.put o.dst (.agg cells)) w) : wpList P ops Q (o :: rest) a w := by
  refine wpList_plain hg fun _ hK => ?_
  unfold Oper.wp execOp
  have hb : (Instr.build t #[(i, v)]).run P w = .ok (.agg cells) w := run_build w t _ cells hf
  simp [ho, hx, hb, Result.andThen_ok]
  exact hK _ _ h
/-- a piece of a block is loaded -/
theorem wpList_load_piece {P : Program} {ops : Array Oper} {rest : List Oper} {o : Oper} {a : Act} {w : World} {Q : Exit → Act → World → Prop} (hgd : o.guard = none) (ty : TypeId) (x : Operand) (ho : o.op = .load ty x)
    (g q : Nat) (hx : a.eval x = .pointer (some ⟨g, q, none⟩)) (cs : Array Value) (d : TypeDesc) (hc : ∀ j v, cs[j]? = some v → w.cell? ⟨g, q + j, none⟩ = some v)
    (hu : P.underlying ty = some d) (hd : (match d with | .struct _ | .array _ _ => true | _ => false) = true) (hi : (P.info? ty).map (·.size) = some cs.size)
    (h : wpList P ops Q rest (a.put o.dst (.agg cs)) w) : wpList P ops Q (o :: rest) a w :=
  Go.Proofs.Ytknemkekmahdmaa.partC.wpList_load_part hgd ty x ho g q hx cs.toList d (fun j v hv => hc j v (by simpa using hv)) hu hd (by simpa using hi) (by simpa using h)
/-- .. is stored -/
theorem wpList_store_piece {P : Program} {ops : Array Oper} {rest : List Oper} {o : Oper} {a : Act} {w : World} {Q : Exit → Act → World → Prop} (hgd : o.guard = none) (ty : TypeId) (x y : Operand) (ho : o.op = .store ty x y)
    (g q : Nat) (cells : Array Value) (hx : a.eval x = .pointer (some ⟨g, q, none⟩)) (hy : a.eval y = .agg cells)
    (t : TypeId) (old : Array Value) (hg : w.heap[g]? = some (.cells old t (0, 0))) (hi : (P.info? ty).map (·.size) = some cells.size)
    (hold : q + cells.size ≤ old.size) (h1 : cells.all (·.oneCell') = true) (new : Array Value) (hn : (old.toList.take q ++ cells.toList ++ old.toList.drop (q + cells.size)).toArray = new)
    (h : wpList P ops Q rest (a.put o.dst undef) (w.setRow g new)) : wpList P ops Q (o :: rest) a w :=
  Go.Proofs.Ytknemkekmahdmaa.partC.wpList_store_part hgd ty x y ho g q cells hx hy t old hg hi hold h1 (by rw [hn]; exact h)
set_option maxRecDepth 100000 in
theorem new_any (k : List Nat) (w : World) (hk : k.length = 16) : Calls Try.prog 18 #[.agg (vec k)] w (Ret w (.agg (vec k))) := by
  obtain ⟨X, hX⟩ : ∃ X, X = vec k := ⟨_, rfl⟩
  obtain ⟨Z, hZ⟩ : ∃ Z, Z = vec (zs 16) := ⟨_, rfl⟩
  have hzv := zeroK
  rw [← hZ] at hzv
  have hb := Lib.hid (show Try.prog.built 39 [(0, .agg X)] = some X by rw [hX]; exact built_key hk)
  have U1 := Lib.hid (show (Try.prog.info? 22).map (·.size) = some X.size by rw [b16_info, hX, vec_size, hk])
  have U2 := Lib.hid (show (Try.prog.info? 39).map (·.size) = some X.size by rw [key_info, hX, vec_size, hk])
  have ZX := Lib.hid (show Z.size = X.size by rw [hZ, hX, vec_size, vec_size, hk]; rfl)
  have OX := Lib.hid (show X.all (·.oneCell') = true by rw [hX]; exact vec_one _)
  have e1 : (w.alloc (.cells X 22)).heap.size = w.heap.size + 1 := alloc_size _ _
  obtain ⟨W, hW⟩ : ∃ W, W = (w.alloc (.cells X 22)).alloc (.cells Z 39) := ⟨_, rfl⟩
  have R0 := Lib.hid (show W.heap[w.heap.size]? = some (.cells X 22 (0, 0)) by rw [hW, Below.block (alloc_below _ _) _ (by rw [e1]; omega)]; exact heap_alloc_new w _)
  have R1 := Lib.hid (show W.heap[w.heap.size + 1]? = some (.cells Z 39 (0, 0)) by rw [hW, ← e1]; exact heap_alloc_new _ _)
  have BW := Lib.hid (show Below w.heap.size w W by rw [hW]; exact ((Below.refl _ _).alloc (Nat.le_refl _) _).alloc (by simp) _)
  rw [← hX]
  clear hX hZ e1
  go_enter Try.func18, Try.ntmps18
  go_upto_region 1 with fail
  rw [← hW]
  clear hW
  go_wp2_with (first
    | (refine wpList_load_row rfl 22 (.tmp 1) rfl w.heap.size rfl _ _ _ _ R0.out Try.underlying22 rfl U1.out ?_)
    | (refine wpList_built rfl 39 0 (.tmp 3) rfl (.agg X) rfl X hb.out ?_)
    | (refine wpList_store_row rfl 39 (.tmp 2) (.tmp 4) rfl (w.heap.size + 1) _ rfl rfl _ _ R1.out U2.out ZX.out OX.out ?_))
  refine bodyPost_ret (v := .agg X) (results_cell_row Try.results18 _ _ (w.heap.size + 1) _ _ _ _ (by rfl) (setRow_heap _ _ _ _ _ _ R1.out) Try.underlying39 rfl U2.out) rfl ⟨rfl, ?_⟩
  exact below_setRow BW.out (by omega) _
end Go.Proofs.Ytknemkekmahdmaa.aesC
