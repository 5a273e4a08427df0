/-
  1 texts of a proof, joined.
-/
import Derived.Test.YthbgjjfhgbkbdaaMg15

/-
  AES: the document's Encrypt.
-/
namespace Go.Proofs.Ythbgjjfhgbkbdaa.aesC
open Go.ChangeShapes Go.WideShapes Go.ChangeAt Go.RowKit
open Go.Proofs.Ythbgjjfhgbkbdaa.memC Go.Proofs.Ythbgjjfhgbkbdaa.genC Go.Proofs.Ythbgjjfhgbkbdaa.aesM Go.Proofs.Ythbgjjfhgbkbdaa.freeC
set_option linter.unusedVariables false
/-- what lies in memory between two rounds -/
structure QR (w : World) (g5 g6 : Nat) (k b : List Nat) (wr : World) : Prop where
  b1 : Bl 32 wr (w.heap.size + 1) b
  b2 : Bl 32 wr (w.heap.size + 1 + 1) (zs 16)
  b5 : Bl 95 wr g5 tbl
  b6 : Bl 97 wr g6 (FL k)
  l5 : w.heap.size + 1 + 1 < g5
  l6 : g5 < g6
  bel : Below w.heap.size w wr
/-- .. and in one -/
structure Q8 (w : World) (g5 g6 g8 g9 : Nat) (k b x y : List Nat) (wr : World) : Prop where
  q : QR w g5 g6 k b wr
  b8 : Bl 32 wr g8 x
  b9 : Bl 32 wr g9 y
  l8 : g6 < g8
  l9 : g8 < g9
section
variable {w wr w' : World} {g5 g6 g8 g9 : Nat} {k b b' x y : List Nat}
theorem QR.below (B : QR w g5 g6 k b wr) (h : Below wr.heap.size wr w') : QR w g5 g6 k b w' := ⟨B.b1.below h B.b1.lt, B.b2.below h B.b2.lt, B.b5.below h B.b5.lt, B.b6.below h B.b6.lt, B.l5, B.l6, B.bel.trans (h.mono B.bel.size)⟩
theorem QR.put (B : QR w g5 g6 k b wr) : QR w g5 g6 k b' (wr.setRow (w.heap.size + 1) (vec b')) := by
  have h := B.l5
  have h6 := B.l6
  exact ⟨B.b1.setRow, B.b2.row_other (by omega) _, B.b5.row_other (by omega) _, B.b6.row_other (by omega) _, h, h6, below_setRow B.bel (by omega) _⟩
theorem QR.heap (B : QR w g5 g6 k b wr) (e : w'.heap = wr.heap) (e1 : w'.os = wr.os) (e2 : w'.tape = wr.tape) (e3 : w'.output = wr.output) : QR w g5 g6 k b w' :=
  B.below ⟨e1, e2, e3, by rw [e]; exact Nat.le_refl _, fun k _ => by rw [e]⟩
theorem QR.cell (B : QR w g5 g6 k b wr) {g : Nat} (hg : g6 < g) (j x : Nat) : QR w g5 g6 k b (wr.setCell ⟨g, j, none⟩ (.int .u8 (x : Int))) := by
  have h := B.l5
  have h6 := B.l6
  exact ⟨B.b1.other (by show g ≠ w.heap.size + 1; omega) _, B.b2.other (by show g ≠ w.heap.size + 1 + 1; omega) _, B.b5.other (by show g ≠ g5; omega) _, B.b6.other (by show g ≠ g6; omega) _, h, h6, B.bel.setCell (p := ⟨g, j, none⟩) (by show w.heap.size ≤ g; omega) _⟩
theorem QR.row (B : QR w g5 g6 k b wr) {g : Nat} (hg : g6 < g) (cs : Array Value) : QR w g5 g6 k b (wr.setRow g cs) := by
  have h := B.l5
  have h6 := B.l6
  exact ⟨B.b1.row_other (by omega) _, B.b2.row_other (by omega) _, B.b5.row_other (by omega) _, B.b6.row_other (by omega) _, h, h6, below_setRow B.bel (by omega) _⟩
theorem Q8.below (B : Q8 w g5 g6 g8 g9 k b x y wr) (h : Below wr.heap.size wr w') : Q8 w g5 g6 g8 g9 k b x y w' := ⟨B.q.below h, B.b8.below h B.b8.lt, B.b9.below h B.b9.lt, B.l8, B.l9⟩
theorem Q8.heap (B : Q8 w g5 g6 g8 g9 k b x y wr) (e : w'.heap = wr.heap) (e1 : w'.os = wr.os) (e2 : w'.tape = wr.tape) (e3 : w'.output = wr.output) : Q8 w g5 g6 g8 g9 k b x y w' :=
  B.below ⟨e1, e2, e3, by rw [e]; exact Nat.le_refl _, fun k _ => by rw [e]⟩
theorem Q8.s8 (B : Q8 w g5 g6 g8 g9 k b x y wr) (j z : Nat) : Q8 w g5 g6 g8 g9 k b (x.set j z) y (wr.setCell ⟨g8, j, none⟩ (.int .u8 (z : Int))) := by
  have h := B.l9
  exact ⟨B.q.cell B.l8 j z, B.b8.stored j z, B.b9.other (by show g8 ≠ g9; omega) _, B.l8, h⟩
theorem Q8.s9 (B : Q8 w g5 g6 g8 g9 k b x y wr) (j z : Nat) : Q8 w g5 g6 g8 g9 k b x (y.set j z) (wr.setCell ⟨g9, j, none⟩ (.int .u8 (z : Int))) := by
  have h := B.l9
  have h8 := B.l8
  exact ⟨B.q.cell (by omega) j z, B.b8.other (by show g9 ≠ g8; omega) _, B.b9.stored j z, h8, h⟩
theorem Q8.r9 (B : Q8 w g5 g6 g8 g9 k b x y wr) : Q8 w g5 g6 g8 g9 k b x x (wr.setRow g9 (vec x)) := by
  have h := B.l9
  have h8 := B.l8
  exact ⟨B.q.row (by omega) _, B.b8.row_other (by omega) _, B.b9.setRow, h8, h⟩
theorem QR.q8 (B : QR w g5 g6 k b wr) (hs : g6 < wr.heap.size) : Q8 w g5 g6 wr.heap.size (wr.heap.size + 1) k b x y ((wr.alloc (.cells (vec x) 32)).alloc (.cells (vec y) 32)) := by
  have e1 : (wr.alloc (.cells (vec x) 32)).heap.size = wr.heap.size + 1 := alloc_size _ _
  refine ⟨(B.below (alloc_below _ _)).below (alloc_below _ _), (Bl.new wr _ x).alloc _, ?_, hs, Nat.lt_succ_self _⟩
  rw [← e1]; exact Bl.new _ _ y
end
/-- a block behind j rounds, the last of which has no multiplying -/
def rS (k b : List Nat) (j : Nat) : List Nat := if j < 10 then encS k b j else encL k b
theorem rS_len (k b : List Nat) (j : Nat) : (rS k b j).length = 16 := by unfold rS; split <;> first | exact encS_len _ _ _ | exact encL_len _ _
theorem rS_by {k b : List Nat} (hk : BY k) (hl : k.length = 16) (hb : BY b) (j : Nat) : BY (rS k b j) := by unfold rS; split <;> first | exact encS_by hk hl hb _ | exact encL_by hk hl _
/-- what a round turns by its key -/
def yR (j : Nat) (x : List Nat) : List Nat := if j < 10 then mixL x else x
theorem yR_len {x : List Nat} (h : x.length = 16) (j : Nat) : (yR j x).length = 16 := by unfold yR; split <;> first | exact mixL_len _ | exact h
theorem yR_by {x : List Nat} (h : BY x) (j : Nat) : BY (yR j x) := by unfold yR; split <;> first | exact mixL_by h | exact h
theorem rS_step (k b : List Nat) {j : Nat} (h : j < 10) : rS k b (j + 1) = xorL (yR (j + 1) (shL (rS k b j))) (rk k (j + 1)) := by
  unfold rS yR
  rw [if_pos h]
  by_cases h2 : j + 1 < 10
  · rw [if_pos h2, if_pos h2]; rfl
  · obtain rfl : j = 9 := by omega
    rfl
def tabR : List (Option Nat) := [none, none, none, none, none, none, none, none, none, none, none, none, none, none, none, none, none, none, none, none, none, none, none, none, none, none, none, none, none, none, none, none, none, none, none, none, none, none, none, none, none, none, none, none, none, none, none, none, none, none, none, none, none, none, none, none, none, none, none, none, none, none, none, none, none, none, none, none, none, none, none, none, none, none, none, none, none, none, none, none, none, none, none, none, none, none, none, none, none, none, none, none, none, none, none, none, none, none, none, none, none, none, none, some 0, some 1, some 2, some 3, some 4, none]
def RV (g6 n : Nat) (Y K R : Array Value) : Nat → Value → World → Prop
  | 0, v, _ => v = .agg Y
  | 1, v, _ => v = .int .i64 (n : Int)
  | 2, v, _ => v = .pointer (some ⟨g6, n * 16, none⟩)
  | 3, v, _ => v = .agg K
  | 4, v, _ => v = .agg R
  | _, _, _ => True
theorem RV.keep (g6 n : Nat) (Y K R : Array Value) (i : Nat) (v : Value) (w w' : World) (hb : Below w.heap.size w w') (h : RV g6 n Y K R i v w) : RV g6 n Y K R i v w' := by
  unfold RV at h ⊢
  split at h <;> exact h
/-- the places of a column's bytes -/
theorem idx_of {c4 r : Nat} (i : Nat) (I : Int) (hI : I = (i : Int)) (hi : i < 4) (hr : r < 4) (hc : c4 ≤ 12) (hm : c4 % 4 = 0) : ∃ ri mi ji : Nat, (r : Int) + I = (ri : Int) ∧ (ri : Int) % 4 = (mi : Int) ∧ (ri : Int).tmod 4 = (mi : Int) ∧ (c4 : Int) + (mi : Int) = (ji : Int) ∧
    IntKind.i64.wrap (ri : Int) = (ri : Int) ∧ IntKind.i64.wrap (mi : Int) = (mi : Int) ∧ IntKind.i64.wrap (ji : Int) = (ji : Int) ∧ (ji : Int) < 16 ∧ ji < 16 ∧ Hid (ji = c4 + (r + i) % 4) := by
  subst hI
  have e : ((r + i : Nat) : Int) % 4 = (((r + i) % 4 : Nat) : Int) := by omega
  refine ⟨r + i, (r + i) % 4, c4 + (r + i) % 4, by omega, e, by rw [Int.tmod_eq_emod_of_nonneg (by omega)]; exact e, by omega, IntWalk.i64_in _ (by omega), IntWalk.i64_in _ (by omega), IntWalk.i64_in _ (by omega), by omega, by omega, Lib.hid rfl⟩
theorem idx_eq {c4 r : Nat} (hm : c4 % 4 = 0) (hr : r < 4) (i : Nat) : c4 + (r + i) % 4 = 4 * ((c4 + r) / 4) + (c4 + r + i) % 4 := by omega
theorem tbl_len : tbl.length = 256 := by decide +kernel
set_option maxRecDepth 100000 in
set_option maxHeartbeats 2000000 in
theorem refencrypt_any (k b : List Nat) (w : World) (hk : k.length = 16) (yk : BY k) (hb : b.length = 16) (yb : BY b) :
    Calls Try.prog 47 #[.agg (vec k), .agg (vec b)] w (Ret w (.agg (vec (encL k b)))) := by
  obtain ⟨X, hX⟩ : ∃ X, X = vec k := ⟨_, rfl⟩
  obtain ⟨Y, hY⟩ : ∃ Y, Y = vec b := ⟨_, rfl⟩
  obtain ⟨Z, hZ⟩ : ∃ Z, Z = vec (zs 16) := ⟨_, rfl⟩
  obtain ⟨Z1, hZ1⟩ : ∃ Z, Z = vec (zs 256) := ⟨_, rfl⟩
  obtain ⟨Z2, hZ2⟩ : ∃ Z, Z = vec (zs 176) := ⟨_, rfl⟩
  obtain ⟨T, hT⟩ : ∃ T, T = vec tbl := ⟨_, rfl⟩
  obtain ⟨F, hF⟩ : ∃ F, F = vec (FL k) := ⟨_, rfl⟩
  obtain ⟨K0, hK0⟩ : ∃ K0, K0 = vec (rk k 0) := ⟨_, rfl⟩
  obtain ⟨R0, hR0⟩ : ∃ R0, R0 = vec (rS k b 0) := ⟨_, rfl⟩
  have hzv := zero16
  rw [← hZ] at hzv
  have hzv1 := zero256
  rw [← hZ1] at hzv1
  have hzv2 := zero11
  rw [← hZ2] at hzv2
  have e1 : (w.alloc (.cells X 32)).heap.size = w.heap.size + 1 := alloc_size _ _
  have e2 : ((w.alloc (.cells X 32)).alloc (.cells Y 32)).heap.size = w.heap.size + 1 + 1 := by rw [alloc_size, e1]
  obtain ⟨W, hW⟩ : ∃ W, W = ((w.alloc (.cells X 32)).alloc (.cells Y 32)).alloc (.cells Z 32) := ⟨_, rfl⟩
  have eW : W.heap.size = w.heap.size + 1 + 1 + 1 := by rw [hW, alloc_size, e2]
  have KX : Bl 32 W w.heap.size k := by rw [hW, hX]; exact ((Bl.new w _ k).alloc _).alloc _
  have KY : Bl 32 W (w.heap.size + 1) b := by rw [hW, hY, ← e1]; exact (Bl.new _ _ b).alloc _
  have KZ : Bl 32 W (w.heap.size + 1 + 1) (zs 16) := by rw [hW, hZ, ← e2]; exact Bl.new _ _ _
  have BW : Below w.heap.size w W := by rw [hW]; exact (((Below.refl _ _).alloc (Nat.le_refl _) _).alloc (by simp) _).alloc (by simp; omega) _
  have UX := Lib.hid (show (Try.prog.info? 32).map (·.size) = some X.size by rw [hX]; exact vec_info hk)
  have UT := Lib.hid (show (Try.prog.info? 95).map (·.size) = some T.size by rw [b256_info, hT, vec_size, tbl_len])
  have ZT := Lib.hid (show Z1.size = T.size by rw [hZ1, hT, vec_size, vec_size, tbl_len, zs_len])
  have OT := Lib.hid (show T.all (·.oneCell') = true by rw [hT]; exact vec_one _)
  have UF := Lib.hid (show (Try.prog.info? 97).map (·.size) = some F.size by rw [b176_info, hF, vec_size, FL_len])
  have ZF := Lib.hid (show Z2.size = F.size by rw [hZ2, hF, vec_size, vec_size, FL_len, zs_len])
  have OF := Lib.hid (show F.all (·.oneCell') = true by rw [hF]; exact vec_one _)
  have CB := Lib.hid (fun w => boxes_any w)
  rw [← hT] at CB
  have CR := Lib.hid (fun w => refrounds_any k w hk yk)
  rw [← hX, ← hT, ← hF] at CR
  have UB := Lib.hid (show (Try.prog.info? 32).map (·.size) = some Y.size by rw [hY]; exact vec_info hb)
  have UK0 := Lib.hid (show (Try.prog.info? 32).map (·.size) = some K0.size by rw [hK0]; exact vec_info (rk_ok yk hk 0).2)
  have UR0 := Lib.hid (show (Try.prog.info? 32).map (·.size) = some R0.size by rw [hR0]; exact vec_info (rS_len k b 0))
  have SR0 := Lib.hid (show (vec b).size = R0.size by rw [hR0, vec_size, vec_size, hb, rS_len])
  have OR0 := Lib.hid (show R0.all (·.oneCell') = true by rw [hR0]; exact vec_one _)
  have CT0 := Lib.hid (fun w => turned_any b (rk k 0) w hb (rk_ok yk hk 0).2 yb (rk_ok yk hk 0).1)
  rw [← hY, ← hK0, show vec (xorL b (rk k 0)) = R0 by rw [hR0]; rfl] at CT0
  have EX := Lib.hid hX
  have EY := Lib.hid hY
  have ET := Lib.hid hT
  have ER0 := Lib.hid hR0
  have EF := Lib.hid hF
  have EK0 := Lib.hid hK0
  have HZ := Lib.hid hZ.symm
  have HW := Lib.hid eW
  have HKX := Lib.hid KX
  have HKY := Lib.hid KY
  have HKZ := Lib.hid KZ
  have HBW := Lib.hid BW
  have HK := Lib.hid hk
  have YK := Lib.hid yk
  have YS := Lib.hid (rS_by yk hk yb)
  have ZN := Lib.hid (show (vec (zs 16)).size = (vec (rS k b 10)).size by rw [vec_size, vec_size, rS_len, zs_len])
  have UN := Lib.hid (show (Try.prog.info? 32).map (·.size) = some (vec (rS k b 10)).size from vec_info (rS_len k b 10))
  rw [← hX, ← hY, show encL k b = rS k b 10 from rfl]
  clear hX hY hZ hZ1 hZ2 hT hF hK0 hR0 e1 e2 eW KX KY KZ BW hk yk hb yb
  go_enter Try.func47, Try.ntmps47
  go_upto_region 1 with fail
  rw [← hW]
  clear hW
  go_upto_region 2 with (first
    | (go_at_call 59; (with_reducible refine (CB.out _).mono ?_); rintro e w1 ⟨rfl, B1⟩)
    | (refine wpList_store_row rfl 95 (.tmp 5) (.tmp 14) rfl w1.heap.size _ rfl rfl _ _ (heap_alloc_new _ _) UT.out ZT.out OT.out ?_))
  rw [World.setRow_alloc_new]
  have hs := B1.size
  rw [HW.out] at hs
  have KX := Lib.hid ((HKX.out.below B1 HKX.out.lt).alloc (.cells T 95))
  have KY := Lib.hid ((HKY.out.below B1 HKY.out.lt).alloc (.cells T 95))
  have KZ := Lib.hid ((HKZ.out.below B1 HKZ.out.lt).alloc (.cells T 95))
  have KT : Bl 95 (w1.alloc (.cells T 95)) w1.heap.size tbl := by rw [ET.out]; exact Bl.new w1 _ _
  have HKT := Lib.hid KT
  have BW2 := Lib.hid ((HBW.out.trans (B1.mono HBW.out.size)).alloc (by omega) (.cells T 95))
  have l5 : w.heap.size + 1 + 1 < w1.heap.size := by omega
  have L5 := Lib.hid l5
  have hs2 : w1.heap.size < (w1.alloc (.cells T 95)).heap.size := by rw [alloc_size]; omega
  have HS2 := Lib.hid hs2
  generalize w1.alloc (.cells T 95) = W2 at *
  generalize w1.heap.size = g5 at *
  clear HKX HKY HKZ HBW B1 hs KT l5 hs2 HW
  have RX := Lib.hid (show W2.heap[w.heap.size]? = some (.cells X 32 (0, 0)) by rw [EX.out]; exact KX.out.row)
  have RT := Lib.hid (show W2.heap[g5]? = some (.cells T 95 (0, 0)) by rw [ET.out]; exact HKT.out.row)
  go_upto_region 3 with (first
    | (refine wpList_load_row rfl 32 (.tmp 2) rfl w.heap.size rfl _ _ _ _ RX.out Try.underlying32 rfl UX.out ?_)
    | (refine wpList_load_row rfl 95 (.tmp 5) rfl g5 rfl _ _ _ _ RT.out Try.underlying95 rfl UT.out ?_)
    | (go_at_call 60; (with_reducible refine (CR.out _).mono ?_); rintro e w3 ⟨rfl, B3⟩)
    | (refine wpList_store_row rfl 97 (.tmp 6) (.tmp 17) rfl w3.heap.size _ rfl rfl _ _ (heap_alloc_new _ _) UF.out ZF.out OF.out ?_))
  rw [World.setRow_alloc_new]
  have hs3 := B3.size
  have l6 : g5 < w3.heap.size := by have := HS2.out; omega
  have Q0 : QR w g5 w3.heap.size k b (w3.alloc (.cells F 97)) := by
    refine ⟨(KY.out.below B3 KY.out.lt).alloc _, (KZ.out.below B3 KZ.out.lt).alloc _, (HKT.out.below B3 HKT.out.lt).alloc _, ?_, L5.out, l6, (BW2.out.trans (B3.mono BW2.out.size)).alloc (Nat.le_trans BW2.out.size hs3) _⟩
    rw [EF.out]; exact Bl.new w3 _ _
  generalize w3.alloc (.cells F 97) = W4 at *
  generalize w3.heap.size = g6 at *
  have H4 := Lib.hid Q0
  clear Q0 B3 hs3 l6 KX KY KZ HKT BW2 L5 HS2 RX RT CB CR UX UT ZT OT UF ZF OF ET EF hzv1 hzv2
  have RY := Lib.hid (show W4.heap[w.heap.size + 1]? = some (.cells Y 32 (0, 0)) by rw [EY.out]; exact H4.out.b1.row)
  have PK0 := Lib.hid (show ∀ w', QR w g5 g6 k b w' → ∀ j v, K0[j]? = some v → w'.cell? ⟨g6, 0 + j, none⟩ = some v from fun w' h => by
    rw [EK0.out]
    exact piece (by have := FL_win YK.out HK.out (n := 0) (by omega); rw [Nat.mul_zero] at this; exact this) h.b6)
  go_upto_region 4 with (first
    | (refine wpList_load_row rfl 32 (.tmp 3) rfl (w.heap.size + 1) rfl _ _ _ _ RY.out Try.underlying32 rfl UB.out ?_)
    | (refine wpList_load_piece rfl 32 (.tmp 19) rfl g6 0 rfl K0 _ (PK0.out _ H4.out) Try.underlying32 rfl UK0.out ?_)
    | (go_at_call 61; (with_reducible refine (CT0.out _).mono ?_); rintro e w5 ⟨rfl, B5⟩
       have H5 := Lib.hid (H4.out.below B5)
       clear B5)
    | (refine wpList_store_row rfl 32 (.tmp 3) (.tmp 21) rfl (w.heap.size + 1) _ rfl rfl _ _ H5.out.b1.row UR0.out SR0.out OR0.out ?_))
  have H6 : Hid (QR w g5 g6 k (rS k b 0) (w5.setRow (w.heap.size + 1) R0)) := Lib.hid (by rw [ER0.out]; exact H5.out.put)
  generalize w5.setRow (w.heap.size + 1) R0 = w6 at *
  clear H4 RY PK0 H5 CT0 UR0 SR0 OR0 UK0 UB ER0 EK0 EY EX
  go_wp2_with fail
  go_loopw [7] (fun i wr => ∃ n j : Nat, j ≤ 10 ∧ Hid (n = j + 1) ∧ i = .int .i64 n ∧ QR w g5 g6 k (rS k b j) wr) (fun i _ => 11 - (intOf i).toNat)
  case atStart => exact ⟨1, 0, by omega, Lib.hid rfl, rfl, H6.out⟩
  case round =>
    obtain ⟨n, j, hj, hn, rfl, BB⟩ := hrel
    have hn' := hn.out
    by_cases hlt : j < 10
    · have hnz : (n : Int) ≤ 10 := by omega
      have n1z : (1 : Int) ≤ (n : Int) := by omega
      have N11 := Lib.hid (show (n : Int) < 11 by omega)
      have HB := Lib.hid BB
      obtain ⟨B, hBe⟩ : ∃ B, B = rS k b j := ⟨_, rfl⟩
      have la := rS_len k b j
      have ya := YS.out j
      have HSt := Lib.hid (rS_step k b hlt)
      rw [← hBe] at HB la ya HSt
      have HL := Lib.hid la
      have HYB := Lib.hid ya
      have hSL := shL_len B
      have HJ := Lib.hid hlt
      have HN := Lib.hid hn'
      have Q8' : Hid (Q8 w g5 g6 wr.heap.size (wr.heap.size + 1) k B (zs 16) (zs 16) ((wr.alloc (.cells Z 32)).alloc (.cells Z 32))) := Lib.hid (by rw [← HZ.out]; exact HB.out.q8 HB.out.b6.lt)
      clear BB la ya hBe hn' hn hlt
      go_upto_region 8 with fail
      generalize (wr.alloc (.cells Z 32)).alloc (.cells Z 32) = W7 at *
      generalize hg9 : wr.heap.size + 1 = g9 at *
      generalize wr.heap.size = g8 at *
      have H7 := Lib.hid Q8'.out
      clear Q8' HB hg9
      go_wp2_with fail
      go_loopw [10] (fun c wx => ∃ c' : Nat, c' ≤ 4 ∧ c = .int .i64 c' ∧ Q8 w g5 g6 g8 g9 k B (mixP (shL B) (zs 16) (c' * 4)) (zs 16) wx) (fun c _ => 4 - (intOf c).toNat)
      case atStart => exact ⟨0, by omega, rfl, by rw [Nat.zero_mul, mixP_zero]; exact H7.out⟩
      case round =>
        obtain ⟨c, hc, rfl, BC⟩ := hrel
        by_cases hct : c < 4
        · have hcz : (c : Int) < 4 := by omega
          obtain ⟨c4, hc4⟩ : ∃ c4, c4 = c * 4 := ⟨_, rfl⟩
          have e1 : (4 : Int) * (c : Int) = (c4 : Int) := by omega
          have c12 : (c4 : Int) ≤ 12 := by omega
          have HC := Lib.hid (show Q8 w g5 g6 g8 g9 k B (mixP (shL B) (zs 16) (c4 + 0)) (zs 16) wr from by rw [hc4]; exact BC)
          have HC4 := Lib.hid hc4
          clear BC hc4
          go_wp2_with fail
          go_loopw [11] (fun r wx => ∃ r' : Nat, r' ≤ 4 ∧ r = .int .i64 r' ∧ Q8 w g5 g6 g8 g9 k B (mixP (shL B) (zs 16) (c4 + r')) (zs 16) wx) (fun r _ => 4 - (intOf r).toNat)
          case atStart => exact ⟨0, by omega, rfl, HC.out⟩
          case round =>
            obtain ⟨r, hr, rfl, BR⟩ := hrel
            by_cases hrt : r < 4
            · have hrz : (r : Int) < 4 := by omega
              have hc4 := HC4.out
              obtain ⟨jj, hjj⟩ : ∃ jj, jj = c4 + r := ⟨_, rfl⟩
              obtain ⟨s, hs⟩ : ∃ s, s = c + r := ⟨_, rfl⟩
              obtain ⟨q, hq⟩ : ∃ q, q = s % 4 := ⟨_, rfl⟩
              obtain ⟨m, hm⟩ : ∃ m, m = q * 4 := ⟨_, rfl⟩
              obtain ⟨p, hp⟩ : ∃ p, p = m + r := ⟨_, rfl⟩
              have e2 : (c4 : Int) + (r : Int) = (jj : Int) := by omega
              have e3 : (c : Int) + (r : Int) = (s : Int) := by omega
              have e4 : (s : Int) % 4 = (q : Int) := by omega
              have e5 : (q : Int) * 4 = (m : Int) := by omega
              have e6 : (m : Int) + (r : Int) = (p : Int) := by omega
              have s8 : (s : Int) < 8 := by omega
              have q4 : (q : Int) < 4 := by omega
              have m12 : (m : Int) ≤ 12 := by omega
              have p16 : (p : Int) < 16 := by omega
              have j16 : (jj : Int) < 16 := by omega
              have hl8 : (mixP (shL B) (zs 16) jj).length = 16 := by rw [mixP_len (by rw [shL_len, zs_len]), zs_len]
              rw [← hjj] at BR
              have cp := BR.q.b1.cell (j := p) (by rw [HL.out]; omega)
              have hxb := HYB.out.at p
              have cb := BR.q.b5.cell (j := B.getD p 0) (by rw [tbl_len]; exact hxb)
              rw [show tbl.getD (B.getD p 0) 0 = box (B.getD p 0) from rfl] at cb
              have co := BR.b8.cell (j := jj) (by rw [hl8]; omega)
              have fo := BR.b8.frozen jj
              have hst := BR.s8 jj ((shL B).getD jj 0)
              rw [mixP_set (by rw [shL_len, zs_len]) (by rw [zs_len]; omega)] at hst
              have hsx : (shL B).getD jj 0 = box (B.getD p 0) := by
                have h1 : (shL B).getD jj 0 = box (B.getD ((jj + jj % 4 * 4) % 16) 0) := getD_map (by omega)
                rw [h1, show (jj + jj % 4 * 4) % 16 = p by omega]
              rw [hsx, show jj + 1 = c4 + (r + 1) by omega] at hst
              have HS := Lib.hid hst
              generalize box (B.getD p 0) = y at *
              generalize B.getD p 0 = x at *
              have xz : (x : Int) < 256 := by omega
              generalize (mixP (shL B) (zs 16) jj).getD jj 0 = old at *
              clear hst hsx BR hl8 hjj hs hq hm hp hxb hc4
              go_wp2_with fail
              go_roundw
              case rel => exact ⟨r + 1, by omega, by go_num, HS.out⟩
              case measure => simp [intOf]; omega
            · have e : r = 4 := by omega
              subst e
              have HE := Lib.hid (show Q8 w g5 g6 g8 g9 k B (mixP (shL B) (zs 16) ((c + 1) * 4)) (zs 16) wr by rw [show (c + 1) * 4 = c4 + 4 by rw [HC4.out]; omega]; exact BR)
              clear BR hrt hr
              go_wp2_with fail
              go_roundw
              case rel => exact ⟨c + 1, by omega, by go_num, HE.out⟩
              case measure => simp [intOf]; omega
        · have e : c = 4 := by omega
          subst e
          have hf : mixP (shL B) (zs 16) (4 * 4) = shL B := by have := mixP_full (xs := shL B) (ys := zs 16) (by rw [shL_len, zs_len]); rwa [zs_len] at this
          rw [hf] at BC
          obtain ⟨S, hSe⟩ : ∃ S, S = shL B := ⟨_, rfl⟩
          obtain ⟨SV, hSV⟩ : ∃ SV, SV = vec S := ⟨_, rfl⟩
          have lS : S.length = 16 := by rw [hSe]; exact shL_len B
          have yS : BY S := by rw [hSe]; exact shL_by B
          rw [← hSe] at BC HSt
          have HSE := Lib.hid hSe
          have LS := Lib.hid lS
          have YSS := Lib.hid yS
          have R8 := Lib.hid (show wr.heap[g8]? = some (.cells SV 32 (0, 0)) by rw [hSV]; exact BC.b8.row)
          have R9 := Lib.hid BC.b9.row
          have U8 := Lib.hid (show (Try.prog.info? 32).map (·.size) = some SV.size by rw [hSV]; exact vec_info lS)
          have Z8 := Lib.hid (show (vec (zs 16)).size = SV.size by rw [hSV, vec_size, vec_size, lS, zs_len])
          have O8 := Lib.hid (show SV.all (·.oneCell') = true by rw [hSV]; exact vec_one _)
          have H8 : Hid (Q8 w g5 g6 g8 g9 k B S S (wr.setRow g9 SV)) := Lib.hid (by rw [hSV]; exact BC.r9)
          clear hf BC hct hc hSV hSe lS yS
          go_upto_region 16 with (first
            | (refine wpList_load_row rfl 32 (.tmp 8) rfl g8 rfl _ _ _ _ R8.out Try.underlying32 rfl U8.out ?_)
            | (refine wpList_store_row rfl 32 (.tmp 9) (.tmp 50) rfl g9 _ rfl rfl _ _ R9.out U8.out Z8.out O8.out ?_))
          generalize wr.setRow g9 SV = w8 at *
          clear R8 R9 U8 Z8 O8
          have HRk := rk_ok YK.out HK.out n
          have UK := Lib.hid (vec_info HRk.2)
          have PW := Lib.hid (show ((FL k).drop (n * 16)).take 16 = rk k n by rw [Nat.mul_comm]; exact FL_win YK.out HK.out (by omega))
          have YV := yR_by YSS.out (j + 1)
          have LV := yR_len LS.out (j + 1)
          have CT := Lib.hid (fun w => turned_any (yR (j + 1) S) (rk k n) w LV HRk.2 YV HRk.1)
          have UY := Lib.hid (vec_info LV)
          have UR := Lib.hid (vec_info (xorL_len (yR (j + 1) S) (rk k n)))
          have SR := Lib.hid (show (vec B).size = (vec (xorL (yR (j + 1) S) (rk k n))).size by rw [vec_size, vec_size, HL.out, xorL_len])
          have OR := Lib.hid (vec_one (xorL (yR (j + 1) S) (rk k n)))
          have HR : Hid (vec (xorL (yR (j + 1) S) (rk k n)) = vec (rS k b (j + 1))) := Lib.hid (by rw [HSt.out, HN.out])
          have HRS := Lib.hid (show xorL (yR (j + 1) S) (rk k n) = rS k b (j + 1) by rw [HSt.out, HN.out])
          clear YV LV HRk
          by_cases hten : n < 10
          · have hnten : (n : Int) < 10 := by omega
            have hyR : yR (j + 1) S = mixL S := by unfold yR; rw [if_pos (by have := HN.out; omega)]
            have HY0 := Lib.hid hyR
            clear hten hyR
            go_wp2_with fail
            go_loopw [12] (fun c wx => ∃ c' : Nat, c' ≤ 4 ∧ c = .int .i64 c' ∧ Q8 w g5 g6 g8 g9 k B S (mixP (mixL S) S (c' * 4)) wx) (fun c _ => 4 - (intOf c).toNat)
            case atStart => exact ⟨0, by omega, rfl, by rw [Nat.zero_mul, mixP_zero]; exact H8.out⟩
            case round =>
              obtain ⟨c, hc, rfl, BC⟩ := hrel
              have hlm : (mixL S).length = S.length := by rw [mixL_len, LS.out]
              have HLM := Lib.hid hlm
              clear hlm
              by_cases hct : c < 4
              · have hcz : (c : Int) < 4 := by omega
                obtain ⟨c4, hc4⟩ : ∃ c4, c4 = c * 4 := ⟨_, rfl⟩
                have e1 : (4 : Int) * (c : Int) = (c4 : Int) := by omega
                have c12 : (c4 : Int) ≤ 12 := by omega
                have wc4 : IntKind.i64.wrap (c4 : Int) = (c4 : Int) := IntWalk.i64_in _ (by omega)
                have C12 := Lib.hid (show c4 ≤ 12 by omega)
                have C4M := Lib.hid (show c4 % 4 = 0 by omega)
                have HC := Lib.hid (show Q8 w g5 g6 g8 g9 k B S (mixP (mixL S) S (c4 + 0)) wr from by rw [hc4]; exact BC)
                have HC4 := Lib.hid hc4
                clear BC hc4
                go_wp2_with fail
                go_loopw [13] (fun r wx => ∃ r' : Nat, r' ≤ 4 ∧ r = .int .i64 r' ∧ Q8 w g5 g6 g8 g9 k B S (mixP (mixL S) S (c4 + r')) wx) (fun r _ => 4 - (intOf r).toNat)
                case atStart => exact ⟨0, by omega, rfl, HC.out⟩
                case round =>
                  obtain ⟨r, hr, rfl, BR⟩ := hrel
                  by_cases hrt : r < 4
                  · have hrz : (r : Int) < 4 := by omega
                    have hSlen := LS.out
                    obtain ⟨j0, hj0⟩ : ∃ j0, j0 = c4 + r := ⟨_, rfl⟩
                    have f0 : (c4 : Int) + (r : Int) = (j0 : Int) := by omega
                    have wj0 : IntKind.i64.wrap (j0 : Int) = (j0 : Int) := IntWalk.i64_in _ (by omega)
                    have lj0 : (j0 : Int) < 16 := by omega
                    have nj0 : j0 < 16 := by omega
                    obtain ⟨r1, m1, j1, a1, b1, t1, f1, wr1, wm1, wj1, lj1, nj1, Hj1⟩ := idx_of (c4 := c4) (r := r) 1 1 rfl (by decide) hrt C12.out C4M.out
                    obtain ⟨r2, m2, j2, a2, b2, t2, f2, wr2, wm2, wj2, lj2, nj2, Hj2⟩ := idx_of (c4 := c4) (r := r) 2 2 rfl (by decide) hrt C12.out C4M.out
                    obtain ⟨r3, m3, j3, a3, b3, t3, f3, wr3, wm3, wj3, lj3, nj3, Hj3⟩ := idx_of (c4 := c4) (r := r) 3 3 rfl (by decide) hrt C12.out C4M.out
                    rw [← hj0] at BR
                    have x0 := BR.b8.cell (j := j0) (by rw [hSlen]; exact nj0)
                    have y0 := YSS.out.at j0
                    have x1 := BR.b8.cell (j := j1) (by rw [hSlen]; exact nj1)
                    have y1 := YSS.out.at j1
                    have x2 := BR.b8.cell (j := j2) (by rw [hSlen]; exact nj2)
                    have y2 := YSS.out.at j2
                    have x3 := BR.b8.cell (j := j3) (by rw [hSlen]; exact nj3)
                    have y3 := YSS.out.at j3
                    have hl9 : (mixP (mixL S) S j0).length = 16 := by rw [mixP_len HLM.out, hSlen]
                    have co := BR.b9.cell (j := j0) (by rw [hl9]; exact nj0)
                    have fo := BR.b9.frozen j0
                    have hst := fun (w' : World) (B' : Q8 w g5 g6 g8 g9 k B S (mixP (mixL S) S j0) w') => B'.s9 j0 ((mixL S).getD j0 0)
                    rw [mixP_set HLM.out (by rw [hSlen]; exact nj0), mixL_at S (i := c) nj0 (a := j0) (b := j1) (c := j2) (d := j3) rfl (by rw [Hj1.out, hj0]; exact idx_eq C4M.out hrt 1) (by rw [Hj2.out, hj0]; exact idx_eq C4M.out hrt 2) (by rw [Hj3.out, hj0]; exact idx_eq C4M.out hrt 3), show j0 + 1 = c4 + (r + 1) by rw [hj0]; rfl] at hst
                    have HS := Lib.hid hst
                    have HCo := Lib.hid BR
                    have T2 := Lib.hid (fun w => (show Calls Try.prog 62 #[.int .u8 ((S.getD j0 0 : Nat) : Int), .int .u8 2] w (Drew (.int .u8 ((tms (S.getD j0 0) 2 : Nat) : Int)) w) from (times_any (S.getD j0 0) 2 w y0 (by decide)).mono fun e w' h => ⟨h.1, 0, h.2.symm⟩))
                    have T3 := Lib.hid (fun w => (show Calls Try.prog 62 #[.int .u8 ((S.getD j1 0 : Nat) : Int), .int .u8 3] w (Drew (.int .u8 ((tms (S.getD j1 0) 3 : Nat) : Int)) w) from (times_any (S.getD j1 0) 3 w y1 (by decide)).mono fun e w' h => ⟨h.1, 0, h.2.symm⟩))
                    have z1 := tms_lt y0 2
                    have z2 := tms_lt y1 3
                    have z3 := xor_lt z1 z2
                    have z4 := xor_lt z3 y2
                    have h1 := xor_b z1 z2
                    have h2 := xor_b z3 y2
                    have h3 := xor_b z4 y3
                    generalize tms (S.getD j0 0) 2 ^^^ tms (S.getD j1 0) 3 ^^^ S.getD j2 0 ^^^ S.getD j3 0 = v3 at *
                    generalize tms (S.getD j0 0) 2 ^^^ tms (S.getD j1 0) 3 ^^^ S.getD j2 0 = v2 at *
                    generalize tms (S.getD j0 0) 2 ^^^ tms (S.getD j1 0) 3 = v1 at *
                    generalize tms (S.getD j0 0) 2 = u0 at *
                    generalize tms (S.getD j1 0) 3 = u1 at *
                    generalize S.getD j0 0 = s0 at *
                    generalize S.getD j1 0 = s1 at *
                    generalize S.getD j2 0 = s2 at *
                    generalize S.getD j3 0 = s3 at *
                    generalize (mixP (mixL S) S j0).getD j0 0 = old at *
                    clear hst BR hl9 hj0 hSlen z1 z2 z3 z4 y0 y1 y2 y3
                    go_upto_region 22 with fail
                    refine Go.Proofs.Ythbgjjfhgbkbdaa.lastC.wp_region_last 40 (by kernel_rfl) (by kernel_rfl) (by kernel_rfl) (by kernel_rfl) ?_
                    simp only [List.take_succ_cons, List.take_zero, List.drop_succ_cons, List.drop_zero]
                    repeat (first | go_big_quiet_step ((go_at_call 62; first | (with_reducible exact Calls.quiet_of (T2.out _)) | (with_reducible exact Calls.quiet_of (T3.out _)))) | quiet_step ((go_at_call 62; first | (with_reducible exact Calls.quiet_of (T2.out _)) | (with_reducible exact Calls.quiet_of (T3.out _)))))
                    refine wpQuiet_nil ?_
                    intro w2 hw2
                    obtain ⟨n2, hw3⟩ := hw2
                    subst hw3
                    have HS2 := Lib.hid (HS.out _ (HCo.out.heap (w' := wr.drewN n2) rfl rfl rfl rfl))
                    clear a1 a2 a3 b1 b2 b3 t1 t2 t3 f0 f1 f2 f3 wj0 wr1 wr2 wr3 wm1 wm2 wm3 wj1 wj2 wj3 lj0 lj1 lj2 lj3 nj1 nj2 nj3 h1 h2 h3 x0 x1 x2 x3
                    go_wp2_with fail
                    go_roundw
                    case rel => exact ⟨r + 1, by omega, by go_num, HS2.out⟩
                    case measure => simp [intOf]; omega
                  · have e : r = 4 := by omega
                    subst e
                    have HE := Lib.hid (show Q8 w g5 g6 g8 g9 k B S (mixP (mixL S) S ((c + 1) * 4)) wr by rw [show (c + 1) * 4 = c4 + 4 by rw [HC4.out]; omega]; exact BR)
                    clear BR hrt hr
                    go_wp2_with fail
                    go_roundw
                    case rel => exact ⟨c + 1, by omega, by go_num, HE.out⟩
                    case measure => simp [intOf]; omega
              · have e : c = 4 := by omega
                subst e
                have hf : mixP (mixL S) S (4 * 4) = mixL S := by have := mixP_full HLM.out; rwa [LS.out] at this
                rw [hf, ← HY0.out] at BC
                have H9 := Lib.hid BC
                clear hf BC hct hc H8
                go_upto_region 23 with fail
                obtain ⟨Y, hYe⟩ : ∃ Y, Y = vec (yR (j + 1) S) := ⟨_, rfl⟩
                obtain ⟨K, hKe⟩ : ∃ K, K = vec (rk k n) := ⟨_, rfl⟩
                obtain ⟨R, hRe⟩ : ∃ R, R = vec (xorL (yR (j + 1) S) (rk k n)) := ⟨_, rfl⟩
                have HY := Lib.hid hYe.symm
                have PC := Lib.hid (show ∀ w', Q8 w g5 g6 g8 g9 k B S (yR (j + 1) S) w' → ∀ i v, K[i]? = some v → w'.cell? ⟨g6, n * 16 + i, none⟩ = some v from fun w' h => by rw [hKe]; exact piece PW.out h.q.b6)
                rw [← hYe, ← hKe, ← hRe] at CT
                rw [← hKe] at UK
                rw [← hYe] at UY
                rw [← hRe] at UR SR OR HR
                clear hYe hKe hRe
                refine with_act fun a0 ha0 => ?_
                have hl : tabR.length = a0.tmps.size := by rw [ha0]; rfl
                have k3 : a0.tmps[3]?.getD undef = .pointer (some ⟨w.heap.size + 1, 0, none⟩) := by rw [ha0]; rfl
                have k6 : a0.tmps[6]?.getD undef = .pointer (some ⟨g6, 0, none⟩) := by rw [ha0]; rfl
                have k7 : a0.tmps[7]?.getD undef = .int .i64 (n : Int) := by rw [ha0]; rfl
                have k9 : a0.tmps[9]?.getD undef = .pointer (some ⟨g9, 0, none⟩) := by rw [ha0]; rfl
                refine wp_region_end 5 (by kernel_rfl) tabR (by kernel_rfl) (by kernel_rfl) hl (by kernel_rfl) (by kernel_rfl) (fun i => a0.tmps[i + 103]?.getD undef) (by rw [ha0]; rfl) (Q8 w g5 g6 g8 g9 k B S (yR (j + 1) S)) (RV g6 n Y K R) ?_ (RV.keep _ _ _ _ _) ⟨?_, ?_, ?_, ?_, ?_, trivial⟩ ?_
                · exact H9.out.heap rfl rfl rfl rfl
                · refine step_plain [] (by kernel_rfl) rfl fun us w' hG hV => ?_
                  have o9 := (frame_old2 (us := us) (a := a0) (show (tabR[9]?).join = none from rfl)).trans k9
                  have hg1 := hG.b9.row
                  rw [HY.out] at hg1
                  generalize frame tabR a0 us = fr at *
                  exact load_ok 32 9 rfl g9 o9 _ _ _ _ hg1 Try.underlying32 rfl UY.out hG rfl
                · refine step_plain [] (by kernel_rfl) rfl fun us w' hG hV => ?_
                  have o7 := (frame_old2 (us := us) (a := a0) (show (tabR[7]?).join = none from rfl)).trans k7
                  generalize frame tabR a0 us = fr at *
                  exact val_ok (v := .int .i64 (n : Int)) (w' := w') (by go_simp) hG (Below.refl _ _) rfl
                · refine step_plain [1] (by kernel_rfl) rfl fun us w' hG hV => ?_
                  have e1 : us 1 = .int .i64 (n : Int) := hV 1 (by simp)
                  have v1 := (frame_at2 (us := us) hl (show (tabR[104]?).join = some 1 from rfl)).trans e1
                  have o6 := (frame_old2 (us := us) (a := a0) (show (tabR[6]?).join = none from rfl)).trans k6
                  have n11 := N11.out
                  generalize frame tabR a0 us = fr at *
                  exact val_ok (v := .pointer (some ⟨g6, n * 16, none⟩)) (w' := w') (by go_simp) hG (Below.refl _ _) rfl
                · refine step_plain [2] (by kernel_rfl) rfl fun us w' hG hV => ?_
                  have e2 : us 2 = .pointer (some ⟨g6, n * 16, none⟩) := hV 2 (by simp)
                  have v2 := (frame_at2 (us := us) hl (show (tabR[105]?).join = some 2 from rfl)).trans e2
                  have hc := PC.out w' hG
                  generalize frame tabR a0 us = fr at *
                  exact loadp_ok 32 105 rfl g6 (n * 16) v2 K _ hc Try.underlying32 rfl UK.out hG rfl
                · refine step_plain [0, 3] (by kernel_rfl) rfl fun us w' hG hV => ?_
                  have e0 : us 0 = .agg Y := hV 0 (by simp)
                  have v0 := (frame_at2 (us := us) hl (show (tabR[103]?).join = some 0 from rfl)).trans e0
                  have e3 : us 3 = .agg K := hV 3 (by simp)
                  have v3 := (frame_at2 (us := us) hl (show (tabR[106]?).join = some 3 from rfl)).trans e3
                  generalize frame tabR a0 us = fr at *
                  exact call_ok (f := 61) (args := #[.agg Y, .agg K]) (by go_simp) ((CT.out w').mono fun e w'' h => ⟨_, h.1, hG.below h.2, h.2, rfl⟩)
                · intro us w' o ho hG hV
                  obtain rfl := Option.some.inj ho
                  have e4 : us 4 = .agg R := hV 4 (by decide)
                  have v4 := (frame_at2 (us := us) hl (show (tabR[107]?).join = some 4 from rfl)).trans e4
                  have o3 := (frame_old2 (us := us) (a := a0) (show (tabR[3]?).join = none from rfl)).trans k3
                  have hg1 := hG.q.b1.row
                  refine store_J 32 3 107 rfl (w.heap.size + 1) R o3 v4 _ _ hg1 UR.out SR.out OR.out ?_
                  have HT : Hid (QR w g5 g6 k (rS k b (j + 1)) (w'.setRow (w.heap.size + 1) R)) := Lib.hid (by rw [HR.out]; exact hG.q.put)
                  generalize w'.setRow (w.heap.size + 1) R = wt at *
                  subst ha0
                  simp only [Act.put, frame, tabR, fill]
                  clear hV v4 o3 e4 hG hg1 k3 k6 k7 k9 hl CT PC UK UY UR SR HY OR HR HRS PW H9
                  go_wp2_with fail
                  go_roundw
                  case rel => exact ⟨n + 1, j + 1, by have := HJ.out; omega, Lib.hid (by rw [HN.out]), by go_num, HT.out⟩
                  case measure => simp [intOf]; omega
          · have hnten : ¬ (n : Int) < 10 := by omega
            have hyR : yR (j + 1) S = S := by unfold yR; rw [if_neg (by have := HN.out; omega)]
            have H9 : Hid (Q8 w g5 g6 g8 g9 k B S (yR (j + 1) S) w8) := Lib.hid (by rw [hyR]; exact H8.out)
            clear hten hyR H8
            go_wp2_with fail
            go_loopw [12] (fun c wx => c = .int .i64 0 ∧ Q8 w g5 g6 g8 g9 k B S (yR (j + 1) S) wx) (fun _ _ => 0)
            case atStart => exact ⟨rfl, H9.out⟩
            case round =>
              obtain ⟨rfl, BC⟩ := hrel
              have H9 := Lib.hid BC
              clear BC
              go_upto_region 23 with fail
              obtain ⟨Y, hYe⟩ : ∃ Y, Y = vec (yR (j + 1) S) := ⟨_, rfl⟩
              obtain ⟨K, hKe⟩ : ∃ K, K = vec (rk k n) := ⟨_, rfl⟩
              obtain ⟨R, hRe⟩ : ∃ R, R = vec (xorL (yR (j + 1) S) (rk k n)) := ⟨_, rfl⟩
              have HY := Lib.hid hYe.symm
              have PC := Lib.hid (show ∀ w', Q8 w g5 g6 g8 g9 k B S (yR (j + 1) S) w' → ∀ i v, K[i]? = some v → w'.cell? ⟨g6, n * 16 + i, none⟩ = some v from fun w' h => by rw [hKe]; exact piece PW.out h.q.b6)
              rw [← hYe, ← hKe, ← hRe] at CT
              rw [← hKe] at UK
              rw [← hYe] at UY
              rw [← hRe] at UR SR OR HR
              clear hYe hKe hRe
              refine with_act fun a0 ha0 => ?_
              have hl : tabR.length = a0.tmps.size := by rw [ha0]; rfl
              have k3 : a0.tmps[3]?.getD undef = .pointer (some ⟨w.heap.size + 1, 0, none⟩) := by rw [ha0]; rfl
              have k6 : a0.tmps[6]?.getD undef = .pointer (some ⟨g6, 0, none⟩) := by rw [ha0]; rfl
              have k7 : a0.tmps[7]?.getD undef = .int .i64 (n : Int) := by rw [ha0]; rfl
              have k9 : a0.tmps[9]?.getD undef = .pointer (some ⟨g9, 0, none⟩) := by rw [ha0]; rfl
              refine wp_region_end 5 (by kernel_rfl) tabR (by kernel_rfl) (by kernel_rfl) hl (by kernel_rfl) (by kernel_rfl) (fun i => a0.tmps[i + 103]?.getD undef) (by rw [ha0]; rfl) (Q8 w g5 g6 g8 g9 k B S (yR (j + 1) S)) (RV g6 n Y K R) ?_ (RV.keep _ _ _ _ _) ⟨?_, ?_, ?_, ?_, ?_, trivial⟩ ?_
              · exact H9.out.heap rfl rfl rfl rfl
              · refine step_plain [] (by kernel_rfl) rfl fun us w' hG hV => ?_
                have o9 := (frame_old2 (us := us) (a := a0) (show (tabR[9]?).join = none from rfl)).trans k9
                have hg1 := hG.b9.row
                rw [HY.out] at hg1
                generalize frame tabR a0 us = fr at *
                exact load_ok 32 9 rfl g9 o9 _ _ _ _ hg1 Try.underlying32 rfl UY.out hG rfl
              · refine step_plain [] (by kernel_rfl) rfl fun us w' hG hV => ?_
                have o7 := (frame_old2 (us := us) (a := a0) (show (tabR[7]?).join = none from rfl)).trans k7
                generalize frame tabR a0 us = fr at *
                exact val_ok (v := .int .i64 (n : Int)) (w' := w') (by go_simp) hG (Below.refl _ _) rfl
              · refine step_plain [1] (by kernel_rfl) rfl fun us w' hG hV => ?_
                have e1 : us 1 = .int .i64 (n : Int) := hV 1 (by simp)
                have v1 := (frame_at2 (us := us) hl (show (tabR[104]?).join = some 1 from rfl)).trans e1
                have o6 := (frame_old2 (us := us) (a := a0) (show (tabR[6]?).join = none from rfl)).trans k6
                have n11 := N11.out
                generalize frame tabR a0 us = fr at *
                exact val_ok (v := .pointer (some ⟨g6, n * 16, none⟩)) (w' := w') (by go_simp) hG (Below.refl _ _) rfl
              · refine step_plain [2] (by kernel_rfl) rfl fun us w' hG hV => ?_
                have e2 : us 2 = .pointer (some ⟨g6, n * 16, none⟩) := hV 2 (by simp)
                have v2 := (frame_at2 (us := us) hl (show (tabR[105]?).join = some 2 from rfl)).trans e2
                have hc := PC.out w' hG
                generalize frame tabR a0 us = fr at *
                exact loadp_ok 32 105 rfl g6 (n * 16) v2 K _ hc Try.underlying32 rfl UK.out hG rfl
              · refine step_plain [0, 3] (by kernel_rfl) rfl fun us w' hG hV => ?_
                have e0 : us 0 = .agg Y := hV 0 (by simp)
                have v0 := (frame_at2 (us := us) hl (show (tabR[103]?).join = some 0 from rfl)).trans e0
                have e3 : us 3 = .agg K := hV 3 (by simp)
                have v3 := (frame_at2 (us := us) hl (show (tabR[106]?).join = some 3 from rfl)).trans e3
                generalize frame tabR a0 us = fr at *
                exact call_ok (f := 61) (args := #[.agg Y, .agg K]) (by go_simp) ((CT.out w').mono fun e w'' h => ⟨_, h.1, hG.below h.2, h.2, rfl⟩)
              · intro us w' o ho hG hV
                obtain rfl := Option.some.inj ho
                have e4 : us 4 = .agg R := hV 4 (by decide)
                have v4 := (frame_at2 (us := us) hl (show (tabR[107]?).join = some 4 from rfl)).trans e4
                have o3 := (frame_old2 (us := us) (a := a0) (show (tabR[3]?).join = none from rfl)).trans k3
                have hg1 := hG.q.b1.row
                refine store_J 32 3 107 rfl (w.heap.size + 1) R o3 v4 _ _ hg1 UR.out SR.out OR.out ?_
                have HT : Hid (QR w g5 g6 k (rS k b (j + 1)) (w'.setRow (w.heap.size + 1) R)) := Lib.hid (by rw [HR.out]; exact hG.q.put)
                generalize w'.setRow (w.heap.size + 1) R = wt at *
                subst ha0
                simp only [Act.put, frame, tabR, fill]
                clear hV v4 o3 e4 hG hg1 k3 k6 k7 k9 hl CT PC UK UY UR SR HY OR HR HRS PW H9
                go_wp2_with fail
                go_roundw
                case rel => exact ⟨n + 1, j + 1, by have := HJ.out; omega, Lib.hid (by rw [HN.out]), by go_num, HT.out⟩
                case measure => simp [intOf]; omega
    · have e : j = 10 := by omega
      subst e
      have e2 : n = 11 := by omega
      subst e2
      have G1 := Lib.hid BB.b1.row
      have G2 := Lib.hid BB.b2.row
      have BQ := Lib.hid BB.bel
      have ON := Lib.hid (vec_one (rS k b 10))
      generalize vec (rS k b 10) = R at *
      clear BB hlt hj hn hn'
      go_wp2_with (first
        | (refine wpList_load_row rfl 32 (.tmp 3) rfl (w.heap.size + 1) rfl _ _ _ _ G1.out Try.underlying32 rfl UN.out ?_)
        | (refine wpList_store_row rfl 32 (.tmp 4) (.tmp 108) rfl (w.heap.size + 1 + 1) _ rfl rfl _ _ G2.out UN.out ZN.out ON.out ?_))
      refine bodyPost_ret (v := .agg R) (results_cell_row Try.results47 _ _ (w.heap.size + 1 + 1) _ _ _ _ (by rfl) (setRow_heap _ _ _ _ _ _ G2.out) Try.underlying32 rfl UN.out) rfl ⟨rfl, ?_⟩
      exact below_setRow BQ.out (by omega) _
end Go.Proofs.Ythbgjjfhgbkbdaa.aesC
