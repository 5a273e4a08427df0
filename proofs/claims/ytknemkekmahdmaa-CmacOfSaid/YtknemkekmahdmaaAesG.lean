/-
  AES: the round key behind one.
-/
import Derived.Test.YtknemkekmahdmaaAesF
import Derived.Test.YtknemkekmahdmaaEnd
namespace Go.Proofs.Ytknemkekmahdmaa.aesC
open Go.ChangeShapes Go.WideShapes Go.ChangeAt Go.RowKit
open Go.Proofs.Ytknemkekmahdmaa.memC Go.Proofs.Ytknemkekmahdmaa.genC Go.Proofs.Ytknemkekmahdmaa.aesM Go.Proofs.Ytknemkekmahdmaa.freeC
set_option linter.unusedVariables false
/-- the turned column ahead, and the key, while it is made -/
def nst (k : List Nat) (y : Nat) : Nat → List Nat × List Nat
  | 0 => ([box (k.getD 13 0) ^^^ y, box (k.getD 14 0), box (k.getD 15 0), box (k.getD 12 0)], k)
  | i + 1 => ((nst k y i).1.set (i % 4) ((nst k y i).1.getD (i % 4) 0 ^^^ (nst k y i).2.getD i 0), (nst k y i).2.set i ((nst k y i).1.getD (i % 4) 0 ^^^ (nst k y i).2.getD i 0))
/-- the round key behind one -/
def nxt (k : List Nat) (y : Nat) : List Nat := (nst k y 16).2
theorem by_set {xs : List Nat} (h : BY xs) (j : Nat) {x : Nat} (hx : x < 256) : BY (xs.set j x) := by
  intro z hz
  rcases List.mem_or_eq_of_mem_set hz with h1 | rfl
  · exact h z h1
  · exact hx
theorem nst_ok {k : List Nat} {y : Nat} (hk : BY k) (hl : k.length = 16) (hy : y < 256) : ∀ i, (nst k y i).1.length = 4 ∧ (nst k y i).2.length = 16 ∧ BY (nst k y i).1 ∧ BY (nst k y i).2
  | 0 => ⟨rfl, hl, by
      intro x hx
      simp only [nst, List.mem_cons, List.not_mem_nil, or_false] at hx
      rcases hx with rfl | rfl | rfl | rfl
      · exact xor_lt (box_lt _) hy
      · exact box_lt _
      · exact box_lt _
      · exact box_lt _, hk⟩
  | i + 1 => by
      obtain ⟨h1, h2, h3, h4⟩ := nst_ok hk hl hy i
      have hx := xor_lt (h3.at (i % 4)) (h4.at i)
      exact ⟨by rw [nst, List.length_set, h1], by rw [nst, List.length_set, h2], by_set h3 _ hx, by_set h4 _ hx⟩
theorem nxt_len {k : List Nat} {y : Nat} (hk : BY k) (hl : k.length = 16) (hy : y < 256) : (nxt k y).length = 16 := (nst_ok hk hl hy 16).2.1
theorem nxt_by {k : List Nat} {y : Nat} (hk : BY k) (hl : k.length = 16) (hy : y < 256) : BY (nxt k y) := (nst_ok hk hl hy 16).2.2.2
/-- the key and the result -/
structure NG (w : World) (k : List Nat) (wr : World) : Prop where
  b0 : Bl 22 wr w.heap.size k
  b1 : Bl 22 wr (w.heap.size + 1) (zs 16)
  bel : Below w.heap.size w wr
theorem NG.lt {w wr : World} {k : List Nat} (h : NG w k wr) : w.heap.size + 1 < wr.heap.size := h.b1.lt
theorem NG.below {w wr w' : World} {k : List Nat} (h : NG w k wr) (b : Below wr.heap.size wr w') : NG w k w' := ⟨h.b0.below b h.b0.lt, h.b1.below b h.b1.lt, h.bel.trans (b.mono h.bel.size)⟩
theorem ng_new (w : World) (k : List Nat) : NG w k ((w.alloc (.cells (vec k) 22)).alloc (.cells (vec (zs 16)) 22)) := by
  refine ⟨(Bl.new w _ k).alloc _, ?_, ((Below.refl _ _).alloc (Nat.le_refl _) _).alloc (by simp) _⟩
  have := Bl.new (w.alloc (.cells (vec k) 22)) 22 (zs 16)
  rw [alloc_size] at this; exact this
/-- and the column -/
structure NR (w : World) (g : Nat) (c k : List Nat) (wr : World) : Prop where
  ng : NG w k wr
  c : Bl 55 wr g c
  lt : w.heap.size + 1 < g
section
variable {w wr w' : World} {g : Nat} {c k : List Nat}
theorem NR.heap (B : NR w g c k wr) (e : w'.heap = wr.heap) (e1 : w'.os = wr.os) (e2 : w'.tape = wr.tape) (e3 : w'.output = wr.output) : NR w g c k w' :=
  ⟨⟨B.ng.b0.heap e, B.ng.b1.heap e, B.ng.bel.trans ⟨e1, e2, e3, by rw [e]; exact Nat.le_refl _, fun k _ => by rw [e]⟩⟩, B.c.heap e, B.lt⟩
theorem NR.sc (B : NR w g c k wr) (j x : Nat) : NR w g (c.set j x) k (wr.setCell ⟨g, j, none⟩ (.int .u8 (x : Int))) := by
  have h := B.lt
  exact ⟨⟨B.ng.b0.other (by show g ≠ w.heap.size; omega) _, B.ng.b1.other (by show g ≠ w.heap.size + 1; omega) _, B.ng.bel.setCell (p := ⟨g, j, none⟩) (by show w.heap.size ≤ g; omega) _⟩, B.c.stored j x, h⟩
theorem NR.sk (B : NR w g c k wr) (j x : Nat) : NR w g c (k.set j x) (wr.setCell ⟨w.heap.size, j, none⟩ (.int .u8 (x : Int))) := by
  have h := B.lt
  exact ⟨⟨B.ng.b0.stored j x, B.ng.b1.other (by show w.heap.size ≠ w.heap.size + 1; omega) _, B.ng.bel.setCell (p := ⟨w.heap.size, j, none⟩) (Nat.le_refl _) _⟩, B.c.other (by show w.heap.size ≠ g; omega) _, h⟩
end
def tabN : List (Option Nat) := [none, none, none, none, none, some 15, none, some 0, some 1, some 2, some 3, some 4, some 5, some 6, some 7, some 8, some 9, some 10, some 11, some 12, some 13, some 14, none, none, none, none, none, none, none, none, none, none, none, none, none, none, none, none, none, none, none, none]
def NV (B x12 x13 x14 x15 y z12 z13 z14 z15 z : Nat) : Nat → Value → World → Prop
  | 0, v, _ => v = .pointer (some ⟨B, 13, none⟩)
  | 1, v, _ => v = .int .u8 (x13 : Int)
  | 2, v, _ => v = .int .u8 (z13 : Int)
  | 3, v, _ => v = .int .u8 (y : Int)
  | 4, v, _ => v = .int .u8 (z : Int)
  | 5, v, _ => v = .pointer (some ⟨B, 14, none⟩)
  | 6, v, _ => v = .int .u8 (x14 : Int)
  | 7, v, _ => v = .int .u8 (z14 : Int)
  | 8, v, _ => v = .pointer (some ⟨B, 15, none⟩)
  | 9, v, _ => v = .int .u8 (x15 : Int)
  | 10, v, _ => v = .int .u8 (z15 : Int)
  | 11, v, _ => v = .pointer (some ⟨B, 12, none⟩)
  | 12, v, _ => v = .int .u8 (x12 : Int)
  | 13, v, _ => v = .int .u8 (z12 : Int)
  | 14, v, _ => v = .agg (vec [z, z14, z15, z12])
  | 15, v, w => ∃ g, v = .pointer (some ⟨g, 0, none⟩) ∧ B + 1 < g ∧ Bl 55 w g (zs 4)
  | _, _, _ => True
theorem NV.keep (B x12 x13 x14 x15 y z12 z13 z14 z15 z : Nat) (i : Nat) (v : Value) (w w' : World) (hb : Below w.heap.size w w') (h : NV B x12 x13 x14 x15 y z12 z13 z14 z15 z i v w) : NV B x12 x13 x14 x15 y z12 z13 z14 z15 z i v w' := by
  unfold NV at h ⊢
  split at h <;> first | exact h | (obtain ⟨g, e, hg, hn⟩ := h; exact ⟨g, e, hg, hn.below hb hn.lt⟩)
set_option maxRecDepth 100000 in
set_option maxHeartbeats 1000000 in
theorem next_any (k : List Nat) (y : Nat) (w : World) (hk : k.length = 16) (yk : BY k) (hy : y < 256) :
    Calls Try.prog 33 #[.agg (vec k), .int .u8 (y : Int)] w (Ret w (.agg (vec (nxt k y)))) := by
  have T0 := Lib.hid (ng_new w k)
  obtain ⟨X, hX⟩ : ∃ X, X = vec k := ⟨_, rfl⟩
  obtain ⟨Z, hZ⟩ : ∃ Z, Z = vec (zs 16) := ⟨_, rfl⟩
  rw [← hX]
  have hzv := zero16
  rw [← hZ] at hzv
  obtain ⟨W, hW⟩ : ∃ W, W = (w.alloc (.cells X 22)).alloc (.cells Z 22) := ⟨_, rfl⟩
  have T1 : Hid (NG w k W) := Lib.hid (by rw [hW, hX, hZ]; exact T0.out)
  have NS := Lib.hid (nst_ok yk hk hy)
  have h0 : nst k y 0 = ([box (k.getD 13 0) ^^^ y, box (k.getD 14 0), box (k.getD 15 0), box (k.getD 12 0)], k) := rfl
  have hcell : ∀ j, j < 16 → ∀ w', NG w k w' → w'.cell? ⟨w.heap.size, j, none⟩ = some (.int .u8 ((k.getD j 0 : Nat) : Int)) := fun j hj w' h => h.b0.cell (by rw [hk]; exact hj)
  have C12 := Lib.hid (hcell 12 (by decide))
  have C13 := Lib.hid (hcell 13 (by decide))
  have C14 := Lib.hid (hcell 14 (by decide))
  have C15 := Lib.hid (hcell 15 (by decide))
  have B12 := Lib.hid (fun w => box_any (k.getD 12 0) w (yk.at 12))
  have B13 := Lib.hid (fun w => box_any (k.getD 13 0) w (yk.at 13))
  have B14 := Lib.hid (fun w => box_any (k.getD 14 0) w (yk.at 14))
  have B15 := Lib.hid (fun w => box_any (k.getD 15 0) w (yk.at 15))
  have HX := Lib.hid (xor_b (box_lt (k.getD 13 0)) hy)
  have U1 := Lib.hid (show (Try.prog.info? 22).map (·.size) = some (vec (nxt k y)).size by rw [b16_info, vec_size, nxt_len yk hk hy])
  have ZL := Lib.hid (show (vec (zs 16)).size = (vec (nxt k y)).size by rw [vec_size, vec_size, nxt_len yk hk hy]; rfl)
  generalize box (k.getD 13 0) ^^^ y = z at *
  generalize box (k.getD 12 0) = z12 at *
  generalize box (k.getD 13 0) = z13 at *
  generalize box (k.getD 14 0) = z14 at *
  generalize box (k.getD 15 0) = z15 at *
  generalize k.getD 12 0 = x12 at *
  generalize k.getD 13 0 = x13 at *
  generalize k.getD 14 0 = x14 at *
  generalize k.getD 15 0 = x15 at *
  have HBu := Lib.hid (fun w => run_build (P := Try.prog) w 55 #[(0, .int .u8 (z : Int)), (1, .int .u8 (z14 : Int)), (2, .int .u8 (z15 : Int)), (3, .int .u8 (z12 : Int))] (vec [z, z14, z15, z12]) (by rfl))
  have H0 := Lib.hid h0
  clear T0 hX hZ h0 hcell
  go_enter Try.func33, Try.ntmps33
  go_upto_region 1 with fail
  rw [← hW]
  clear hW hzv
  refine with_act fun a0 ha0 => ?_
  have hl : tabN.length = a0.tmps.size := by rw [ha0]; rfl
  have k1 : a0.tmps[1]?.getD undef = .int .u8 (y : Int) := by rw [ha0]; rfl
  have k2 : a0.tmps[2]?.getD undef = .pointer (some ⟨w.heap.size, 0, none⟩) := by rw [ha0]; rfl
  refine wp_region_end 16 (by kernel_rfl) tabN (by kernel_rfl) (by kernel_rfl) hl (by kernel_rfl) (by kernel_rfl) (fun _ => undef) (by rw [ha0]; rfl) (NG w k) (NV w.heap.size x12 x13 x14 x15 y z12 z13 z14 z15 z) ?_ (NV.keep _ _ _ _ _ _ _ _ _ _ _) ⟨?_, ?_, ?_, ?_, ?_, ?_, ?_, ?_, ?_, ?_, ?_, ?_, ?_, ?_, ?_, ?_, trivial⟩ ?_
  · exact ⟨T1.out.b0.heap rfl, T1.out.b1.heap rfl, T1.out.bel.drew⟩
  · refine step_plain [] (by kernel_rfl) rfl fun us w' hG hV => ?_
    have o2 := (frame_old2 (us := us) (a := a0) (show (tabN[2]?).join = none from rfl)).trans k2
    generalize frame tabN a0 us = fr at *
    exact val_ok (v := .pointer (some ⟨w.heap.size, 13, none⟩)) (w' := w') (by go_simp) hG (Below.refl _ _) rfl
  · refine step_plain [0] (by kernel_rfl) rfl fun us w' hG hV => ?_
    have e0 : us 0 = .pointer (some ⟨w.heap.size, 13, none⟩) := hV 0 (by simp)
    have v0 := (frame_at2 (us := us) hl (show (tabN[7]?).join = some 0 from rfl)).trans e0
    have c13 := C13.out w' hG
    generalize frame tabN a0 us = fr at *
    exact val_ok (v := .int .u8 (x13 : Int)) (w' := w') (by go_simp) hG (Below.refl _ _) rfl
  · refine step_plain [1] (by kernel_rfl) rfl fun us w' hG hV => ?_
    have e1 : us 1 = .int .u8 (x13 : Int) := hV 1 (by simp)
    have v1 := (frame_at2 (us := us) hl (show (tabN[8]?).join = some 1 from rfl)).trans e1
    generalize frame tabN a0 us = fr at *
    exact call_ok (f := 35) (args := #[.int .u8 (x13 : Int)]) (by go_simp) ((B13.out w').mono fun e w'' h => ⟨_, h.1, h.2 ▸ hG, h.2 ▸ Below.refl _ _, rfl⟩)
  · refine step_plain [] (by kernel_rfl) rfl fun us w' hG hV => ?_
    have o1 := (frame_old2 (us := us) (a := a0) (show (tabN[1]?).join = none from rfl)).trans k1
    generalize frame tabN a0 us = fr at *
    exact val_ok (v := .int .u8 (y : Int)) (w' := w') (by go_simp) hG (Below.refl _ _) rfl
  · refine step_plain [2, 3] (by kernel_rfl) rfl fun us w' hG hV => ?_
    have e2 : us 2 = .int .u8 (z13 : Int) := hV 2 (by simp)
    have v2 := (frame_at2 (us := us) hl (show (tabN[9]?).join = some 2 from rfl)).trans e2
    have e3 : us 3 = .int .u8 (y : Int) := hV 3 (by simp)
    have v3 := (frame_at2 (us := us) hl (show (tabN[10]?).join = some 3 from rfl)).trans e3
    have hx := HX.out
    generalize frame tabN a0 us = fr at *
    exact val_ok (v := .int .u8 (z : Int)) (w' := w') (by go_simp) hG (Below.refl _ _) rfl
  · refine step_plain [] (by kernel_rfl) rfl fun us w' hG hV => ?_
    have o2 := (frame_old2 (us := us) (a := a0) (show (tabN[2]?).join = none from rfl)).trans k2
    generalize frame tabN a0 us = fr at *
    exact val_ok (v := .pointer (some ⟨w.heap.size, 14, none⟩)) (w' := w') (by go_simp) hG (Below.refl _ _) rfl
  · refine step_plain [5] (by kernel_rfl) rfl fun us w' hG hV => ?_
    have e5 : us 5 = .pointer (some ⟨w.heap.size, 14, none⟩) := hV 5 (by simp)
    have v5 := (frame_at2 (us := us) hl (show (tabN[12]?).join = some 5 from rfl)).trans e5
    have c14 := C14.out w' hG
    generalize frame tabN a0 us = fr at *
    exact val_ok (v := .int .u8 (x14 : Int)) (w' := w') (by go_simp) hG (Below.refl _ _) rfl
  · refine step_plain [6] (by kernel_rfl) rfl fun us w' hG hV => ?_
    have e6 : us 6 = .int .u8 (x14 : Int) := hV 6 (by simp)
    have v6 := (frame_at2 (us := us) hl (show (tabN[13]?).join = some 6 from rfl)).trans e6
    generalize frame tabN a0 us = fr at *
    exact call_ok (f := 35) (args := #[.int .u8 (x14 : Int)]) (by go_simp) ((B14.out w').mono fun e w'' h => ⟨_, h.1, h.2 ▸ hG, h.2 ▸ Below.refl _ _, rfl⟩)
  · refine step_plain [] (by kernel_rfl) rfl fun us w' hG hV => ?_
    have o2 := (frame_old2 (us := us) (a := a0) (show (tabN[2]?).join = none from rfl)).trans k2
    generalize frame tabN a0 us = fr at *
    exact val_ok (v := .pointer (some ⟨w.heap.size, 15, none⟩)) (w' := w') (by go_simp) hG (Below.refl _ _) rfl
  · refine step_plain [8] (by kernel_rfl) rfl fun us w' hG hV => ?_
    have e8 : us 8 = .pointer (some ⟨w.heap.size, 15, none⟩) := hV 8 (by simp)
    have v8 := (frame_at2 (us := us) hl (show (tabN[15]?).join = some 8 from rfl)).trans e8
    have c15 := C15.out w' hG
    generalize frame tabN a0 us = fr at *
    exact val_ok (v := .int .u8 (x15 : Int)) (w' := w') (by go_simp) hG (Below.refl _ _) rfl
  · refine step_plain [9] (by kernel_rfl) rfl fun us w' hG hV => ?_
    have e9 : us 9 = .int .u8 (x15 : Int) := hV 9 (by simp)
    have v9 := (frame_at2 (us := us) hl (show (tabN[16]?).join = some 9 from rfl)).trans e9
    generalize frame tabN a0 us = fr at *
    exact call_ok (f := 35) (args := #[.int .u8 (x15 : Int)]) (by go_simp) ((B15.out w').mono fun e w'' h => ⟨_, h.1, h.2 ▸ hG, h.2 ▸ Below.refl _ _, rfl⟩)
  · refine step_plain [] (by kernel_rfl) rfl fun us w' hG hV => ?_
    have o2 := (frame_old2 (us := us) (a := a0) (show (tabN[2]?).join = none from rfl)).trans k2
    generalize frame tabN a0 us = fr at *
    exact val_ok (v := .pointer (some ⟨w.heap.size, 12, none⟩)) (w' := w') (by go_simp) hG (Below.refl _ _) rfl
  · refine step_plain [11] (by kernel_rfl) rfl fun us w' hG hV => ?_
    have e11 : us 11 = .pointer (some ⟨w.heap.size, 12, none⟩) := hV 11 (by simp)
    have v11 := (frame_at2 (us := us) hl (show (tabN[18]?).join = some 11 from rfl)).trans e11
    have c12 := C12.out w' hG
    generalize frame tabN a0 us = fr at *
    exact val_ok (v := .int .u8 (x12 : Int)) (w' := w') (by go_simp) hG (Below.refl _ _) rfl
  · refine step_plain [12] (by kernel_rfl) rfl fun us w' hG hV => ?_
    have e12 : us 12 = .int .u8 (x12 : Int) := hV 12 (by simp)
    have v12 := (frame_at2 (us := us) hl (show (tabN[19]?).join = some 12 from rfl)).trans e12
    generalize frame tabN a0 us = fr at *
    exact call_ok (f := 35) (args := #[.int .u8 (x12 : Int)]) (by go_simp) ((B12.out w').mono fun e w'' h => ⟨_, h.1, h.2 ▸ hG, h.2 ▸ Below.refl _ _, rfl⟩)
  · refine step_plain [4, 7, 10, 13] (by kernel_rfl) rfl fun us w' hG hV => ?_
    have e4 : us 4 = .int .u8 (z : Int) := hV 4 (by simp)
    have v4 := (frame_at2 (us := us) hl (show (tabN[11]?).join = some 4 from rfl)).trans e4
    have e7 : us 7 = .int .u8 (z14 : Int) := hV 7 (by simp)
    have v7 := (frame_at2 (us := us) hl (show (tabN[14]?).join = some 7 from rfl)).trans e7
    have e10 : us 10 = .int .u8 (z15 : Int) := hV 10 (by simp)
    have v10 := (frame_at2 (us := us) hl (show (tabN[17]?).join = some 10 from rfl)).trans e10
    have e13 : us 13 = .int .u8 (z12 : Int) := hV 13 (by simp)
    have v13 := (frame_at2 (us := us) hl (show (tabN[20]?).join = some 13 from rfl)).trans e13
    have hb := HBu.out w'
    generalize frame tabN a0 us = fr at *
    exact val_ok (v := .agg (vec [z, z14, z15, z12])) (w' := w') (by go_simp; rfl) hG (Below.refl _ _) rfl
  · refine step_plain [] (by kernel_rfl) rfl fun us w' hG hV => ?_
    have hz := zero4
    have hb := alloc_below w' (.cells (vec (zs 4)) 55)
    have hn := Bl.new w' 55 (zs 4)
    have hsz := hG.lt
    generalize frame tabN a0 us = fr at *
    generalize vec (zs 4) = Z at *
    exact val_ok (v := .pointer (some ⟨w'.heap.size, 0, none⟩)) (w' := w'.alloc (.cells Z 55)) (by go_simp) (hG.below hb) hb ⟨_, rfl, hsz, hn⟩
  · intro us w' o ho hG hV
    obtain rfl := Option.some.inj ho
    have e14 : us 14 = .agg (vec [z, z14, z15, z12]) := hV 14 (by decide)
    obtain ⟨g, e15, hg, hn⟩ : ∃ g, us 15 = .pointer (some ⟨g, 0, none⟩) ∧ w.heap.size + 1 < g ∧ Bl 55 w' g (zs 4) := hV 15 (by decide)
    have v14 := (frame_at2 (us := us) hl (show (tabN[21]?).join = some 14 from rfl)).trans e14
    have v15 := (frame_at2 (us := us) hl (show (tabN[5]?).join = some 15 from rfl)).trans e15
    refine store_J 55 5 21 rfl g _ v15 v14 _ _ hn.row (by rw [b4_info]; rfl) rfl (vec_one _) ?_
    have R0 : NR w g (nst k y 0).1 (nst k y 0).2 (w'.setRow g (vec [z, z14, z15, z12])) := by
      rw [H0.out]
      exact ⟨⟨hG.b0.row_other (by omega) _, hG.b1.row_other (by omega) _, below_setRow hG.bel (by omega) _⟩, hn.setRow, hg⟩
    generalize w'.setRow g (vec [z, z14, z15, z12]) = w2 at *
    subst ha0
    simp only [Act.put, frame, tabN, fill]
    rw [e15]
    have HR0 := Lib.hid R0
    clear R0 hV v14 v15 e14 e15 hG hn k1 k2 hl C12 C13 C14 C15 B12 B13 B14 B15 HX HBu H0 T1
    have hg1 := Lib.hid hg
    have hne : g ≠ w.heap.size := by omega
    have hne2 : w.heap.size ≠ g := by omega
    clear hg
    go_wp2_with fail
    go_loopw [22] (fun i wr => ∃ n : Nat, n ≤ 16 ∧ i = .int .i64 n ∧ NR w g (nst k y n).1 (nst k y n).2 wr) (fun i _ => 16 - (intOf i).toNat)
    case atStart => exact ⟨0, by omega, rfl, HR0.out⟩
    case round =>
      obtain ⟨n, hn, rfl, BB⟩ := hrel
      obtain ⟨l1, l2, y1, y2⟩ := NS.out n
      have HB := Lib.hid BB
      by_cases hlt : n < 16
      · have hnz : (n : Int) < 16 := by omega
        obtain ⟨r, hr⟩ : ∃ r, r = n % 4 := ⟨_, rfl⟩
        have e1 : (n : Int) % 4 = (r : Int) := by omega
        have r4 : (r : Int) < 4 := by omega
        have cc := BB.c.cell (j := r) (by rw [l1]; omega)
        have fc := BB.c.frozen r
        have ck := BB.ng.b0.cell (j := n) (by rw [l2]; exact hlt)
        have fk := BB.ng.b0.frozen n
        have hx := xor_b (y1.at r) (y2.at n)
        have hs1 : (nst k y (n + 1)).1 = (nst k y n).1.set r ((nst k y n).1.getD r 0 ^^^ (nst k y n).2.getD n 0) := by rw [hr]; rfl
        have hs2 : (nst k y (n + 1)).2 = (nst k y n).2.set n ((nst k y n).1.getD r 0 ^^^ (nst k y n).2.getD n 0) := by rw [hr]; rfl
        have HS := Lib.hid (hs1 ▸ hs2 ▸ ((BB.heap (w' := wr.drew) rfl rfl rfl rfl).sc r ((nst k y n).1.getD r 0 ^^^ (nst k y n).2.getD n 0)).sk n ((nst k y n).1.getD r 0 ^^^ (nst k y n).2.getD n 0) : NR w g (nst k y (n + 1)).1 (nst k y (n + 1)).2 _)
        generalize (nst k y n).1.getD r 0 ^^^ (nst k y n).2.getD n 0 = x at *
        generalize (nst k y n).1.getD r 0 = xa at *
        generalize (nst k y n).2.getD n 0 = xb at *
        clear hs1 hs2 BB l1 l2 y1 y2 hr
        have et : (n : Int).tmod 4 = (r : Int) := by rw [Int.tmod_eq_emod_of_nonneg (by omega)]; exact e1
        have ew : IntKind.i64.wrap (r : Int) = (r : Int) := IntWalk.i64_in _ (by omega)
        have r4n : r < 4 := by omega
        go_upto_region 5 with fail
        go_still_tail 9, (by kernel_rfl)
        change wpList _ _ _ _ _ wr.drew
        go_wp2_with fail
        go_roundw
        case rel => exact ⟨n + 1, by omega, by go_num, HS.out⟩
        case measure => simp [intOf]; omega
      · have e : n = 16 := by omega
        subst e
        have BB : NR w g (nst k y 16).1 (nxt k y) wr := BB
        have G1 := Lib.hid BB.ng.b0.row
        have G2 := Lib.hid BB.ng.b1.row
        have BQ := Lib.hid BB.ng.bel
        clear BB HB hlt hn l1 l2 y1 y2
        go_wp2_with (first
          | (refine wpList_load_row rfl 22 (.tmp 2) rfl w.heap.size rfl _ _ _ _ G1.out Try.underlying22 rfl U1.out ?_)
          | (refine wpList_store_row rfl 22 (.tmp 4) (.tmp 41) rfl (w.heap.size + 1) _ rfl rfl _ _ G2.out U1.out ZL.out (vec_one _) ?_))
        refine bodyPost_ret (v := .agg (vec (nxt k y))) (results_cell_row Try.results33 _ _ (w.heap.size + 1) _ _ _ _ (by rfl) (setRow_heap _ _ _ _ _ _ G2.out) Try.underlying22 rfl U1.out) rfl ⟨rfl, ?_⟩
        exact below_setRow BQ.out (by omega) _
end Go.Proofs.Ytknemkekmahdmaa.aesC
