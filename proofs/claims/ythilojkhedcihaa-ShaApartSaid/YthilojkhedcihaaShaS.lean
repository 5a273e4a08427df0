/-
  The walk of the fourth statement.
-/
import Derived.Test.YthilojkhedcihaaShaR
namespace Go.Proofs.Ythilojkhedcihaa.shaC
open Go.ChangeShapes Go.WideShapes Go.ChangeAt Go.RowKit
open Go.Proofs.Ythilojkhedcihaa.memC Go.Proofs.Ythilojkhedcihaa.genC Go.Proofs.Ythilojkhedcihaa.shaM Go.Proofs.Ythilojkhedcihaa.shaN Go.Proofs.Ythilojkhedcihaa.butC Go.Proofs.Ythilojkhedcihaa.partsC Go.Proofs.Ythilojkhedcihaa.freeC
set_option linter.unusedVariables false
def tabA : List (Option Nat) := [none, none, none, none, none, none, none, none, some 6, some 7, none, none, none, none, none, none, none, none, none, none, none, none, none, none, some 0, some 1, some 2, some 3, some 4, some 5, none, none, none, none, none, none, none, none, none, none, none, none, none, none, none, none, none, none, none, none, none, none, none, none, none, none, none, none, none, none, none, none, none, none, none, none]
/-- what holds while x and y are made -/
structure JR (w0 : World) (k : Nat) (S Sb Sc Z : Array Value) (vb vc : Value) (m : Nat → Bool) (us : Nat → Value) (w : World) : Prop where
  bel : Below w0.heap.size w0 w
  row : w.heap[k]? = some (.cells S 33 (0, 0))
  v0 : m 0 = true → us 0 = .agg S
  v1 : m 1 = true → us 1 = vb
  v2 : m 2 = true → us 2 = .agg Sb
  v3 : m 3 = true → us 3 = .agg S
  v4 : m 4 = true → us 4 = vc
  v5 : m 5 = true → us 5 = .agg Sc
  v6 : m 6 = true → ∃ g, us 6 = .pointer (some ⟨g, 0, none⟩) ∧ w0.heap.size ≤ g ∧ g ≠ k ∧ w.heap[g]? = some (.cells (if m 8 then Sb else Z) 33 (0, 0))
  v7 : m 7 = true → ∃ g, us 7 = .pointer (some ⟨g, 0, none⟩) ∧ w0.heap.size ≤ g ∧ g ≠ k ∧ w.heap[g]? = some (.cells (if m 9 then Sc else Z) 33 (0, 0))
  ne : m 6 = true → m 7 = true → us 6 ≠ us 7
  c8 : m 8 = true → m 6 = true
  c9 : m 9 = true → m 7 = true
theorem row_lt {w : World} {g : Nat} {o : Obj} (h : w.heap[g]? = some o) : g < w.heap.size := by
  rcases Nat.lt_or_ge g w.heap.size with h1 | h1
  · exact h1
  · rw [Array.getElem?_eq_none h1] at h; cases h
section
variable {w0 w w' : World} {k : Nat} {S Sb Sc Z : Array Value} {vb vc : Value} {m : Nat → Bool} {us : Nat → Value}
/-- a value has come up -/
theorem JR.val (h : JR w0 k S Sb Sc Z vb vc m us w) (i : Nat) (hi : i < 6) (v : Value) (hv : v = (match i with | 0 => .agg S | 1 => vb | 2 => .agg Sb | 3 => .agg S | 4 => vc | _ => .agg Sc)) (hb : Below w.heap.size w w') :
    JR w0 k S Sb Sc Z vb vc (upd m i true) (upd us i v) w' := by
  have h6 : upd m i true 6 = m 6 := upd_other _ _ (by omega)
  have h7 : upd m i true 7 = m 7 := upd_other _ _ (by omega)
  have h8 : upd m i true 8 = m 8 := upd_other _ _ (by omega)
  have h9 : upd m i true 9 = m 9 := upd_other _ _ (by omega)
  have u6 : upd us i v 6 = us 6 := upd_other _ _ (by omega)
  have u7 : upd us i v 7 = us 7 := upd_other _ _ (by omega)
  have hval : ∀ j x, (m j = true → us j = x) → (j = i → v = x) → upd m i true j = true → upd us i v j = x := by
    intro j x h1 h2 h3
    by_cases e : j = i
    · subst e; rw [upd_same]; exact h2 rfl
    · rw [upd_other _ _ e]; rw [upd_other _ _ e] at h3; exact h1 h3
  refine ⟨h.bel.trans (hb.mono h.bel.size), (hb.block k (row_lt h.row)).trans h.row, hval 0 _ h.v0 ?_, hval 1 _ h.v1 ?_, hval 2 _ h.v2 ?_, hval 3 _ h.v3 ?_, hval 4 _ h.v4 ?_, hval 5 _ h.v5 ?_, ?_, ?_, ?_, ?_, ?_⟩
  · rintro rfl; exact hv
  · rintro rfl; exact hv
  · rintro rfl; exact hv
  · rintro rfl; exact hv
  · rintro rfl; exact hv
  · rintro rfl; exact hv
  · rw [h6, u6, h8]
    intro hm
    obtain ⟨g, e1, e2, e3, e4⟩ := h.v6 hm
    exact ⟨g, e1, e2, e3, (hb.block g (row_lt e4)).trans e4⟩
  · rw [h7, u7, h9]
    intro hm
    obtain ⟨g, e1, e2, e3, e4⟩ := h.v7 hm
    exact ⟨g, e1, e2, e3, (hb.block g (row_lt e4)).trans e4⟩
  · rw [h6, h7, u6, u7]; exact h.ne
  · rw [h8, h6]; exact h.c8
  · rw [h9, h7]; exact h.c9
theorem ptr_ne {g g' : Nat} (h : g ≠ g') : (Value.pointer (some ⟨g, 0, none⟩)) ≠ .pointer (some ⟨g', 0, none⟩) := by
  intro e; injection e with e; injection e with e; injection e with e; exact h e
/-- x's variable is made -/
theorem JR.x (h : JR w0 k S Sb Sc Z vb vc m us w) (hm : m 6 = false) :
    JR w0 k S Sb Sc Z vb vc (upd m 6 true) (upd us 6 (.pointer (some ⟨w.heap.size, 0, none⟩))) (w.alloc (.cells Z 33)) := by
  have h8 : m 8 = false := by cases e : m 8 with | false => rfl | true => rw [h.c8 e] at hm; cases hm
  have hb := alloc_below w (.cells Z 33)
  have hk := row_lt h.row
  refine ⟨h.bel.trans (hb.mono h.bel.size), (hb.block k hk).trans h.row, ?_, ?_, ?_, ?_, ?_, ?_, ?_, ?_, ?_, ?_, ?_⟩
  · exact h.v0
  · exact h.v1
  · exact h.v2
  · exact h.v3
  · exact h.v4
  · exact h.v5
  · intro _
    refine ⟨w.heap.size, rfl, h.bel.size, by omega, ?_⟩
    show (w.alloc (.cells Z 33)).heap[w.heap.size]? = some (.cells (if m 8 = true then Sb else Z) 33 (0, 0))
    rw [h8]; exact heap_alloc_new w _
  · intro h7
    obtain ⟨g, e1, e2, e3, e4⟩ := h.v7 h7
    exact ⟨g, e1, e2, e3, (hb.block g (row_lt e4)).trans e4⟩
  · intro _ h7
    obtain ⟨g, e1, e2, e3, e4⟩ := h.v7 h7
    show Value.pointer (some ⟨w.heap.size, 0, none⟩) ≠ us 7
    rw [e1]
    exact ptr_ne (by have := row_lt e4; omega)
  · intro _; rfl
  · exact h.c9
/-- y's variable is made -/
theorem JR.y (h : JR w0 k S Sb Sc Z vb vc m us w) (hm : m 7 = false) :
    JR w0 k S Sb Sc Z vb vc (upd m 7 true) (upd us 7 (.pointer (some ⟨w.heap.size, 0, none⟩))) (w.alloc (.cells Z 33)) := by
  have h9 : m 9 = false := by cases e : m 9 with | false => rfl | true => rw [h.c9 e] at hm; cases hm
  have hb := alloc_below w (.cells Z 33)
  have hk := row_lt h.row
  refine ⟨h.bel.trans (hb.mono h.bel.size), (hb.block k hk).trans h.row, ?_, ?_, ?_, ?_, ?_, ?_, ?_, ?_, ?_, ?_, ?_⟩
  · exact h.v0
  · exact h.v1
  · exact h.v2
  · exact h.v3
  · exact h.v4
  · exact h.v5
  · intro h6
    obtain ⟨g, e1, e2, e3, e4⟩ := h.v6 h6
    exact ⟨g, e1, e2, e3, (hb.block g (row_lt e4)).trans e4⟩
  · intro _
    refine ⟨w.heap.size, rfl, h.bel.size, by omega, ?_⟩
    show (w.alloc (.cells Z 33)).heap[w.heap.size]? = some (.cells (if m 9 = true then Sc else Z) 33 (0, 0))
    rw [h9]; exact heap_alloc_new w _
  · intro h6 _
    obtain ⟨g, e1, e2, e3, e4⟩ := h.v6 h6
    show us 6 ≠ Value.pointer (some ⟨w.heap.size, 0, none⟩)
    rw [e1]
    exact ptr_ne (by have := row_lt e4; omega)
  · exact h.c8
  · intro _; rfl
theorem below_row {B g : Nat} (hb : Below B w0 w) (hg : B ≤ g) (cs : Array Value) : Below B w0 (w.setRow g cs) :=
  hb.trans ⟨rfl, rfl, rfl, by simp, fun y hy => setRow_other _ _ _ _ (by omega)⟩
/-- x is stored -/
theorem JR.sx (h : JR w0 k S Sb Sc Z vb vc m us w) (g : Nat) (hm8 : m 8 = false) (h6 : m 6 = true) (hg : us 6 = .pointer (some ⟨g, 0, none⟩)) : JR w0 k S Sb Sc Z vb vc (upd m 8 true) (upd us 8 undef) (w.setRow g Sb) := by
  obtain ⟨g', e1, e2, e3, e4⟩ := h.v6 h6
  rw [hg] at e1
  obtain rfl : g = g' := by injection e1 with e; injection e with e; injection e
  refine ⟨below_row h.bel e2 _, by rw [setRow_other _ _ _ _ (fun e => e3 e.symm)]; exact h.row, h.v0, h.v1, h.v2, h.v3, h.v4, h.v5, ?_, ?_, h.ne, fun _ => h6, h.c9⟩
  · intro _
    exact ⟨g, hg, e2, e3, setRow_heap _ _ _ _ _ _ e4⟩
  · intro h7
    obtain ⟨y, f1, f2, f3, f4⟩ := h.v7 h7
    have hne : y ≠ g := by rintro rfl; exact h.ne h6 h7 (by rw [hg, f1])
    exact ⟨y, f1, f2, f3, by rw [setRow_other _ _ _ _ hne]; exact f4⟩
/-- y is stored -/
theorem JR.sy (h : JR w0 k S Sb Sc Z vb vc m us w) (g : Nat) (hm9 : m 9 = false) (h7 : m 7 = true) (hg : us 7 = .pointer (some ⟨g, 0, none⟩)) : JR w0 k S Sb Sc Z vb vc (upd m 9 true) (upd us 9 undef) (w.setRow g Sc) := by
  obtain ⟨g', e1, e2, e3, e4⟩ := h.v7 h7
  rw [hg] at e1
  obtain rfl : g = g' := by injection e1 with e; injection e with e; injection e
  refine ⟨below_row h.bel e2 _, by rw [setRow_other _ _ _ _ (fun e => e3 e.symm)]; exact h.row, h.v0, h.v1, h.v2, h.v3, h.v4, h.v5, ?_, ?_, h.ne, h.c8, fun _ => h7⟩
  · intro h6
    obtain ⟨y, f1, f2, f3, f4⟩ := h.v6 h6
    have hne : y ≠ g := by rintro rfl; exact h.ne h6 h7 (by rw [hg, f1])
    exact ⟨y, f1, f2, f3, by rw [setRow_other _ _ _ _ hne]; exact f4⟩
  · intro _
    exact ⟨g, hg, e2, e3, setRow_heap _ _ _ _ _ _ e4⟩
end
end Go.Proofs.Ythilojkhedcihaa.shaC
