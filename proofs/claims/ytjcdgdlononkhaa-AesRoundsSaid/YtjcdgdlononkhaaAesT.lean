/-
  AES: the document's way back.
-/
import Derived.Test.YtjcdgdlononkhaaAesS
namespace Go.Proofs.Ytjcdgdlononkhaa.aesC
open Go.ChangeShapes Go.WideShapes Go.ChangeAt Go.RowKit
open Go.Proofs.Ytjcdgdlononkhaa.memC Go.Proofs.Ytjcdgdlononkhaa.genC Go.Proofs.Ytjcdgdlononkhaa.aesM Go.Proofs.Ytjcdgdlononkhaa.freeC
set_option linter.unusedVariables false
theorem xorL_twice {a b : List Nat} (h : a.length = 16) : xorL (xorL a b) b = a := by
  apply List.ext_getElem?
  intro j
  rcases Nat.lt_or_ge j 16 with hj | hj
  · rw [getD_eq (by rw [xorL_len]; exact hj), getD_eq (by rw [h]; exact hj)]
    have h1 : (xorL (xorL a b) b).getD j 0 = (xorL a b).getD j 0 ^^^ b.getD j 0 := getD_map hj
    have h2 : (xorL a b).getD j 0 = a.getD j 0 ^^^ b.getD j 0 := getD_map hj
    rw [h1, h2, Nat.xor_assoc, Nat.xor_self, Nat.xor_zero]
  · rw [List.getElem?_eq_none (by rw [xorL_len]; exact hj), List.getElem?_eq_none (by rw [h]; exact hj)]
/-- where the byte j of a shifted block comes from -/
def pJ (j : Nat) : Nat := (j / 4 + j % 4) % 4 * 4 + j % 4
/-- a block, of whose bytes j have gone back -/
def bS (B Y : List Nat) : Nat → List Nat
  | 0 => Y
  | j + 1 => (bS B Y j).set (pJ j) (B.getD (pJ j) 0)
theorem bS_len {B Y : List Nat} (h : Y.length = 16) : ∀ j, (bS B Y j).length = 16
  | 0 => h
  | j + 1 => by rw [bS, List.length_set, bS_len h j]
theorem bS_all {B Y : List Nat} (hB : B.length = 16) (hY : Y.length = 16) : bS B Y 16 = B := by
  obtain ⟨a, b, c, d, e, f, g, i, j, k, m, n, o, p, q, r, rfl⟩ := list16 hB
  obtain ⟨a2, b2, c2, d2, e2, f2, g2, i2, j2, k2, m2, n2, o2, p2, q2, r2, rfl⟩ := list16 hY
  kernel_rfl
theorem backS_len : ∀ i, (backS i).length = 256
  | 0 => by rw [backS, List.length_replicate]
  | i + 1 => by rw [backS, List.length_set, backS_len i]
/-- the places of a byte that goes back -/
theorem back_idx {c4 c r : Nat} (h4 : c4 = c * 4) (hc : c < 4) (hr : r < 4) : ∃ jj s q m p : Nat, (c4 : Int) + (r : Int) = (jj : Int) ∧ (c : Int) + (r : Int) = (s : Int) ∧ (s : Int) % 4 = (q : Int) ∧ (q : Int) * 4 = (m : Int) ∧ (m : Int) + (r : Int) = (p : Int) ∧
    (s : Int) < 8 ∧ (q : Int) < 4 ∧ (m : Int) ≤ 12 ∧ (p : Int) < 16 ∧ (jj : Int) < 16 ∧ jj < 16 ∧ Hid (pJ jj = p) ∧ Hid ((jj + jj % 4 * 4) % 16 = p) := by
  refine ⟨c4 + r, c + r, (c + r) % 4, (c + r) % 4 * 4, (c + r) % 4 * 4 + r, by omega, by omega, by omega, by omega, by omega, by omega, by omega, by omega, by omega, by omega, by omega, Lib.hid ?_, Lib.hid ?_⟩
  · unfold pJ; omega
  · omega
/-- what lies in memory ahead of the rounds -/
structure D1 (w : World) (g5 g6 : Nat) (k y z : List Nat) (wr : World) : Prop where
  b0 : Bl 22 wr w.heap.size k
  b1 : Bl 22 wr (w.heap.size + 1) y
  b2 : Bl 22 wr (w.heap.size + 1 + 1) (zs 16)
  b5 : Bl 32 wr g5 tbl
  b6 : Bl 32 wr g6 z
  l5 : w.heap.size + 1 + 1 < g5
  l6 : g5 < g6
  bel : Below w.heap.size w wr
/-- .. between two -/
structure D2 (w : World) (g6 g8 : Nat) (k y : List Nat) (wr : World) : Prop where
  b1 : Bl 22 wr (w.heap.size + 1) y
  b2 : Bl 22 wr (w.heap.size + 1 + 1) (zs 16)
  b6 : Bl 32 wr g6 back
  b8 : Bl 30 wr g8 (FL k)
  l6 : w.heap.size + 1 + 1 < g6
  l8 : g6 < g8
  bel : Below w.heap.size w wr
/-- .. and in one -/
structure D3 (w : World) (g6 g8 g10 : Nat) (k y x : List Nat) (wr : World) : Prop where
  q : D2 w g6 g8 k y wr
  b10 : Bl 22 wr g10 x
  l10 : g8 < g10
section
variable {w wr w' : World} {g5 g6 g8 g10 : Nat} {k y y' x z : List Nat}
theorem D1.below (B : D1 w g5 g6 k y z wr) (h : Below wr.heap.size wr w') : D1 w g5 g6 k y z w' := ⟨B.b0.below h B.b0.lt, B.b1.below h B.b1.lt, B.b2.below h B.b2.lt, B.b5.below h B.b5.lt, B.b6.below h B.b6.lt, B.l5, B.l6, B.bel.trans (h.mono B.bel.size)⟩
theorem D1.s6 (B : D1 w g5 g6 k y z wr) (j v : Nat) : D1 w g5 g6 k y (z.set j v) (wr.setCell ⟨g6, j, none⟩ (.int .u8 (v : Int))) := by
  have h := B.l5
  have h6 := B.l6
  exact ⟨B.b0.other (by show g6 ≠ w.heap.size; omega) _, B.b1.other (by show g6 ≠ w.heap.size + 1; omega) _, B.b2.other (by show g6 ≠ w.heap.size + 1 + 1; omega) _, B.b5.other (by show g6 ≠ g5; omega) _, B.b6.stored j v, h, h6, B.bel.setCell (p := ⟨g6, j, none⟩) (by show w.heap.size ≤ g6; omega) _⟩
theorem D1.d2 (B : D1 w g5 g6 k y back wr) (h : Below wr.heap.size wr w') : D2 w g6 w'.heap.size k y (w'.alloc (.cells (vec (FL k)) 30)) := by
  have C := B.below h
  have h5 := B.l5
  have h6 := B.l6
  exact ⟨C.b1.alloc _, C.b2.alloc _, C.b6.alloc _, Bl.new w' _ _, by omega, C.b6.lt, C.bel.alloc C.bel.size _⟩
theorem D2.below (B : D2 w g6 g8 k y wr) (h : Below wr.heap.size wr w') : D2 w g6 g8 k y w' := ⟨B.b1.below h B.b1.lt, B.b2.below h B.b2.lt, B.b6.below h B.b6.lt, B.b8.below h B.b8.lt, B.l6, B.l8, B.bel.trans (h.mono B.bel.size)⟩
theorem D2.heap (B : D2 w g6 g8 k y wr) (e : w'.heap = wr.heap) (e1 : w'.os = wr.os) (e2 : w'.tape = wr.tape) (e3 : w'.output = wr.output) : D2 w g6 g8 k y w' :=
  B.below ⟨e1, e2, e3, by rw [e]; exact Nat.le_refl _, fun k _ => by rw [e]⟩
theorem D2.put (B : D2 w g6 g8 k y wr) : D2 w g6 g8 k y' (wr.setRow (w.heap.size + 1) (vec y')) := by
  have h := B.l6
  have h8 := B.l8
  exact ⟨B.b1.setRow, B.b2.row_other (by omega) _, B.b6.row_other (by omega) _, B.b8.row_other (by omega) _, h, h8, below_setRow B.bel (by omega) _⟩
theorem D2.s1 (B : D2 w g6 g8 k y wr) (j v : Nat) : D2 w g6 g8 k (y.set j v) (wr.setCell ⟨w.heap.size + 1, j, none⟩ (.int .u8 (v : Int))) := by
  have h := B.l6
  have h8 := B.l8
  exact ⟨B.b1.stored j v, B.b2.other (by show w.heap.size + 1 ≠ w.heap.size + 1 + 1; omega) _, B.b6.other (by show w.heap.size + 1 ≠ g6; omega) _, B.b8.other (by show w.heap.size + 1 ≠ g8; omega) _, h, h8, B.bel.setCell (p := ⟨w.heap.size + 1, j, none⟩) (by show w.heap.size ≤ w.heap.size + 1; omega) _⟩
theorem D2.cell (B : D2 w g6 g8 k y wr) {g : Nat} (hg : g8 < g) (j v : Nat) : D2 w g6 g8 k y (wr.setCell ⟨g, j, none⟩ (.int .u8 (v : Int))) := by
  have h := B.l6
  have h8 := B.l8
  exact ⟨B.b1.other (by show g ≠ w.heap.size + 1; omega) _, B.b2.other (by show g ≠ w.heap.size + 1 + 1; omega) _, B.b6.other (by show g ≠ g6; omega) _, B.b8.other (by show g ≠ g8; omega) _, h, h8, B.bel.setCell (p := ⟨g, j, none⟩) (by show w.heap.size ≤ g; omega) _⟩
theorem D2.d3 (B : D2 w g6 g8 k y wr) : D3 w g6 g8 wr.heap.size k y x (wr.alloc (.cells (vec x) 22)) := ⟨B.below (alloc_below _ _), Bl.new wr _ _, B.b8.lt⟩
theorem D3.below (B : D3 w g6 g8 g10 k y x wr) (h : Below wr.heap.size wr w') : D3 w g6 g8 g10 k y x w' := ⟨B.q.below h, B.b10.below h B.b10.lt, B.l10⟩
theorem D3.heap (B : D3 w g6 g8 g10 k y x wr) (e : w'.heap = wr.heap) (e1 : w'.os = wr.os) (e2 : w'.tape = wr.tape) (e3 : w'.output = wr.output) : D3 w g6 g8 g10 k y x w' :=
  B.below ⟨e1, e2, e3, by rw [e]; exact Nat.le_refl _, fun k _ => by rw [e]⟩
theorem D3.s10 (B : D3 w g6 g8 g10 k y x wr) (j v : Nat) : D3 w g6 g8 g10 k y (x.set j v) (wr.setCell ⟨g10, j, none⟩ (.int .u8 (v : Int))) := ⟨B.q.cell B.l10 j v, B.b10.stored j v, B.l10⟩
theorem D3.s1 (B : D3 w g6 g8 g10 k y x wr) (j v : Nat) : D3 w g6 g8 g10 k (y.set j v) x (wr.setCell ⟨w.heap.size + 1, j, none⟩ (.int .u8 (v : Int))) := by
  have h := B.q.l6
  have h8 := B.q.l8
  have h10 := B.l10
  exact ⟨B.q.s1 j v, B.b10.other (by show w.heap.size + 1 ≠ g10; omega) _, h10⟩
end
/-- a byte of a column, back -/
theorem back_at {S : List Nat} (hS : BY S) {j0 j1 j2 j3 : Nat} (h : j0 < 16) (e1 : j1 = 4 * (j0 / 4) + (j0 + 1) % 4) (e2 : j2 = 4 * (j0 / 4) + (j0 + 2) % 4) (e3 : j3 = 4 * (j0 / 4) + (j0 + 3) % 4) :
    tms ((mixL S).getD j0 0) 14 ^^^ tms ((mixL S).getD j1 0) 11 ^^^ tms ((mixL S).getD j2 0) 13 ^^^ tms ((mixL S).getD j3 0) 9 = S.getD j0 0 := by
  rw [mixL_at S (i := 0) (j := j0) (a := j0) (b := j1) (c := j2) (d := j3) (by omega) rfl (by omega) (by omega) (by omega), mixL_at S (i := 0) (j := j1) (a := j1) (b := j2) (c := j3) (d := j0) (by omega) rfl (by omega) (by omega) (by omega),
    mixL_at S (i := 0) (j := j2) (a := j2) (b := j3) (c := j0) (d := j1) (by omega) rfl (by omega) (by omega) (by omega), mixL_at S (i := 0) (j := j3) (a := j3) (b := j0) (c := j1) (d := j2) (by omega) rfl (by omega) (by omega) (by omega)]
  exact col_back (hS.at _) (hS.at _) (hS.at _) (hS.at _)
def tabD : List (Option Nat) := [none, none, none, none, none, none, none, none, none, none, none, none, none, none, none, none, none, none, none, none, none, none, none, none, none, none, none, none, none, none, none, none, none, some 0, some 1, some 2, some 3, some 4, none, none, none, none, none, none, none, none, none, none, none, none, none, none, none, none, none, none, none, none, none, none, none, none, none, none, none, none, none, none, none, none, none, none, none, none, none, none, none, none, none, none, none, none, none, none, none, none, none, none, none, none, none, none, none, none, none, none, none, none, none, none, none, none, none, none, none, none, none, none, none, none, none, none, none, none, none, none, none, none, none, none, none]
def DV (g8 n : Nat) (A K R : Array Value) : Nat → Value → World → Prop
  | 0, v, _ => v = .agg A
  | 1, v, _ => v = .int .i64 (n : Int)
  | 2, v, _ => v = .pointer (some ⟨g8, n * 16, none⟩)
  | 3, v, _ => v = .agg K
  | 4, v, _ => v = .agg R
  | _, _, _ => True
theorem DV.keep (g8 n : Nat) (A K R : Array Value) (i : Nat) (v : Value) (w w' : World) (hb : Below w.heap.size w w') (h : DV g8 n A K R i v w) : DV g8 n A K R i v w' := by
  unfold DV at h ⊢
  split at h <;> exact h
set_option maxRecDepth 100000 in
set_option maxHeartbeats 2000000 in
theorem refdecrypt_any (k b : List Nat) (w : World) (hk : k.length = 16) (yk : BY k) (hb : b.length = 16) (yb : BY b) :
    Calls Try.prog 19 #[.agg (vec k), .agg (vec (rS k b 10))] w (Ret w (.agg (vec b))) := by
  obtain ⟨X, hX⟩ : ∃ X, X = vec k := ⟨_, rfl⟩
  obtain ⟨Y, hY⟩ : ∃ Y, Y = vec (rS k b 10) := ⟨_, rfl⟩
  obtain ⟨Z, hZ⟩ : ∃ Z, Z = vec (zs 16) := ⟨_, rfl⟩
  obtain ⟨Z1, hZ1⟩ : ∃ Z, Z = vec (zs 256) := ⟨_, rfl⟩
  obtain ⟨Z2, hZ2⟩ : ∃ Z, Z = vec (zs 176) := ⟨_, rfl⟩
  obtain ⟨T, hT⟩ : ∃ T, T = vec tbl := ⟨_, rfl⟩
  obtain ⟨F, hF⟩ : ∃ F, F = vec (FL k) := ⟨_, rfl⟩
  have hzv := zero16
  rw [← hZ] at hzv
  have hzv1 := zero256
  rw [← hZ1] at hzv1
  have hzv2 := zero11
  rw [← hZ2] at hzv2
  have e1 : (w.alloc (.cells X 22)).heap.size = w.heap.size + 1 := alloc_size _ _
  have e2 : ((w.alloc (.cells X 22)).alloc (.cells Y 22)).heap.size = w.heap.size + 1 + 1 := by rw [alloc_size, e1]
  obtain ⟨W, hW⟩ : ∃ W, W = ((w.alloc (.cells X 22)).alloc (.cells Y 22)).alloc (.cells Z 22) := ⟨_, rfl⟩
  have eW : W.heap.size = w.heap.size + 1 + 1 + 1 := by rw [hW, alloc_size, e2]
  have KX : Bl 22 W w.heap.size k := by rw [hW, hX]; exact ((Bl.new w _ k).alloc _).alloc _
  have KY : Bl 22 W (w.heap.size + 1) (rS k b 10) := by rw [hW, hY, ← e1]; exact (Bl.new _ _ _).alloc _
  have KZ : Bl 22 W (w.heap.size + 1 + 1) (zs 16) := by rw [hW, hZ, ← e2]; exact Bl.new _ _ _
  have BW : Below w.heap.size w W := by rw [hW]; exact (((Below.refl _ _).alloc (Nat.le_refl _) _).alloc (by simp) _).alloc (by simp; omega) _
  have UX := Lib.hid (show (Try.prog.info? 22).map (·.size) = some X.size by rw [hX]; exact vec_info hk)
  have UT := Lib.hid (show (Try.prog.info? 32).map (·.size) = some T.size by rw [b256_info, hT, vec_size, tbl_len])
  have ZT := Lib.hid (show Z1.size = T.size by rw [hZ1, hT, vec_size, vec_size, tbl_len, zs_len])
  have OT := Lib.hid (show T.all (·.oneCell') = true by rw [hT]; exact vec_one _)
  have UF := Lib.hid (show (Try.prog.info? 30).map (·.size) = some F.size by rw [b176_info, hF, vec_size, FL_len])
  have ZF := Lib.hid (show Z2.size = F.size by rw [hZ2, hF, vec_size, vec_size, FL_len, zs_len])
  have OF := Lib.hid (show F.all (·.oneCell') = true by rw [hF]; exact vec_one _)
  have CB := Lib.hid (fun w => boxes_any w)
  rw [← hT] at CB
  have CR := Lib.hid (fun w => refrounds_any k w hk yk)
  rw [← hX, ← hT, ← hF] at CR
  have EX := Lib.hid hX
  have ET := Lib.hid hT
  have EF := Lib.hid hF
  have EZ1 := Lib.hid hZ1
  have HZ := Lib.hid (show Z.size = 16 by rw [hZ, vec_size, zs_len])
  have HW := Lib.hid eW
  have HKX := Lib.hid KX
  have HKY := Lib.hid KY
  have HKZ := Lib.hid KZ
  have HBW := Lib.hid BW
  have HK := Lib.hid hk
  have YK := Lib.hid yk
  have LB := Lib.hid hb
  have YS := Lib.hid (rS_by yk hk yb)
  have UB := Lib.hid (show (Try.prog.info? 22).map (·.size) = some (vec b).size from vec_info hb)
  have ZB := Lib.hid (show (vec (zs 16)).size = (vec b).size by rw [vec_size, vec_size, hb, zs_len])
  rw [← hX, ← hY]
  clear hX hY hZ hZ1 hZ2 hT hF e1 e2 eW KX KY KZ BW hk yk hb yb
  go_enter Try.func19, Try.ntmps19
  go_upto_region 1 with fail
  rw [← hW]
  clear hW
  go_upto_region 2 with (first
    | (go_at_call 13; (with_reducible refine (CB.out _).mono ?_); rintro e w1 ⟨rfl, B1⟩)
    | (refine wpList_store_row rfl 32 (.tmp 5) (.tmp 15) rfl w1.heap.size _ rfl rfl _ _ (heap_alloc_new _ _) UT.out ZT.out OT.out ?_))
  rw [World.setRow_alloc_new]
  have hs := B1.size
  rw [HW.out] at hs
  have a0 := (HKX.out.below B1 HKX.out.lt).alloc (.cells T 32)
  have a1 := (HKY.out.below B1 HKY.out.lt).alloc (.cells T 32)
  have a2 := (HKZ.out.below B1 HKZ.out.lt).alloc (.cells T 32)
  have a5 : Bl 32 (w1.alloc (.cells T 32)) w1.heap.size tbl := by rw [ET.out]; exact Bl.new w1 _ _
  have ab := (HBW.out.trans (B1.mono HBW.out.size)).alloc (by omega) (.cells T 32)
  have l5 : w.heap.size + 1 + 1 < w1.heap.size := by omega
  generalize w1.alloc (.cells T 32) = W2 at *
  generalize w1.heap.size = g5 at *
  have hD : D1 w g5 W2.heap.size k (rS k b 10) (backS 0) (W2.alloc (.cells Z1 32)) := by
    refine ⟨a0.alloc _, a1.alloc _, a2.alloc _, a5.alloc _, ?_, l5, a5.lt, ab.alloc ab.size _⟩
    rw [EZ1.out]; exact Bl.new W2 _ _
  have HD := Lib.hid hD
  clear HKX HKY HKZ HBW B1 hs a0 a1 a2 a5 ab l5 HW EZ1 CB ZT OT hD
  go_upto_region 3 with fail
  generalize W2.alloc (.cells Z1 32) = W3 at *
  generalize W2.heap.size = g6 at *
  go_wp2_with fail
  go_loopw [7] (fun i wr => ∃ n : Nat, n ≤ 256 ∧ i = .int .i64 n ∧ D1 w g5 g6 k (rS k b 10) (backS n) wr) (fun i _ => 256 - (intOf i).toNat)
  case atStart => exact ⟨0, by omega, rfl, HD.out⟩
  case round =>
    obtain ⟨n, hn, rfl, BB⟩ := hrel
    by_cases hlt : n < 256
    · have hnz : (n : Int) < 256 := by omega
      have c5 := BB.b5.cell (j := n) (by rw [tbl_len]; exact hlt)
      rw [show tbl.getD n 0 = box n from rfl] at c5
      have c6 := BB.b6.cell (j := box n) (by rw [backS_len]; exact box_lt n)
      have f6 := BB.b6.frozen (box n)
      have hst := BB.s6 (box n) n
      rw [show (backS n).set (box n) n = backS (n + 1) from rfl] at hst
      have HS := Lib.hid hst
      have hx := box_lt n
      generalize (backS n).getD (box n) 0 = old at *
      generalize box n = x at *
      have hxz : (x : Int) < 256 := by omega
      clear hst BB
      go_wp2_with fail
      go_roundw
      case rel => exact ⟨n + 1, by omega, by go_num, HS.out⟩
      case measure => simp [intOf]; omega
    · have e : n = 256 := by omega
      subst e
      have H1 := Lib.hid (show D1 w g5 g6 k (rS k b 10) back wr from BB)
      have RX := Lib.hid (show wr.heap[w.heap.size]? = some (.cells X 22 (0, 0)) by rw [EX.out]; exact BB.b0.row)
      have RT := Lib.hid (show wr.heap[g5]? = some (.cells T 32 (0, 0)) by rw [ET.out]; exact BB.b5.row)
      clear BB hlt hn HD
      go_upto_region 8 with (first
        | (refine wpList_load_row rfl 22 (.tmp 2) rfl w.heap.size rfl _ _ _ _ RX.out Try.underlying22 rfl UX.out ?_)
        | (refine wpList_load_row rfl 32 (.tmp 5) rfl g5 rfl _ _ _ _ RT.out Try.underlying32 rfl UT.out ?_)
        | (go_at_call 12; (with_reducible refine (CR.out _).mono ?_); rintro e w3 ⟨rfl, B3⟩)
        | (refine wpList_store_row rfl 30 (.tmp 8) (.tmp 28) rfl w3.heap.size _ rfl rfl _ _ (heap_alloc_new _ _) UF.out ZF.out OF.out ?_))
      rw [World.setRow_alloc_new]
      have hQ := H1.out.d2 B3
      rw [← EF.out] at hQ
      generalize w3.alloc (.cells F 30) = W4 at *
      generalize w3.heap.size = g8 at *
      have H4 := Lib.hid hQ
      clear hQ B3 H1 RX RT CR UX UT UF ZF OF ET EF EX hzv1 hzv2
      go_wp2_with fail
      go_loopw [9] (fun i wx => ∃ n : Nat, n ≤ 10 ∧ i = .int .i64 n ∧ D2 w g6 g8 k (rS k b n) wx) (fun i _ => (intOf i).toNat)
      case atStart => exact ⟨10, by omega, rfl, H4.out⟩
      case round =>
        obtain ⟨n, hn, rfl, BB⟩ := hrel
        by_cases hpos : 1 ≤ n
        · have hnz : (1 : Int) ≤ (n : Int) := by omega
          obtain ⟨j, hj⟩ : ∃ j, j = n - 1 := ⟨_, rfl⟩
          have hjz : (n : Int) - 1 = (j : Int) := by omega
          have HJ := Lib.hid (show n = j + 1 by omega)
          have HN := Lib.hid hn
          have N11 := Lib.hid (show (n : Int) < 11 by omega)
          have HB := Lib.hid BB
          have HRk := rk_ok YK.out HK.out n
          have la := rS_len k b n
          have ya := YS.out n
          have UA := Lib.hid (vec_info la)
          have UK := Lib.hid (vec_info HRk.2)
          have PW := Lib.hid (show ((FL k).drop (n * 16)).take 16 = rk k n by rw [Nat.mul_comm]; exact FL_win YK.out HK.out (by omega))
          have CT := Lib.hid (fun w => turned_any (rS k b n) (rk k n) w la HRk.2 ya HRk.1)
          obtain ⟨B, hBe⟩ : ∃ B, B = rS k b j := ⟨_, rfl⟩
          obtain ⟨S, hSe⟩ : ∃ S, S = shL B := ⟨_, rfl⟩
          have hxe : xorL (rS k b n) (rk k n) = yR n S := by
            have h1 := rS_step k b (j := j) (by omega)
            rw [← HJ.out, ← hBe, ← hSe] at h1
            rw [h1]
            exact xorL_twice (yR_len (by rw [hSe]; exact shL_len _) _)
          rw [hxe] at CT
          have lS : S.length = 16 := by rw [hSe]; exact shL_len B
          have yS : BY S := by rw [hSe]; exact shL_by B
          have LS := Lib.hid lS
          have YSS := Lib.hid yS
          have LBB := Lib.hid (show B.length = 16 by rw [hBe]; exact rS_len _ _ _)
          have YBB := Lib.hid (show BY B by rw [hBe]; exact YS.out j)
          have HBE := Lib.hid hBe
          have HSE := Lib.hid hSe
          have LY := Lib.hid (yR_len lS n)
          have YY := Lib.hid (yR_by yS n)
          have UR := Lib.hid (vec_info LY.out)
          have SR := Lib.hid (show (vec (rS k b n)).size = (vec (yR n S)).size by rw [vec_size, vec_size, la, LY.out])
          obtain ⟨A, hAe⟩ : ∃ A, A = vec (rS k b n) := ⟨_, rfl⟩
          obtain ⟨K, hKe⟩ : ∃ K, K = vec (rk k n) := ⟨_, rfl⟩
          obtain ⟨R, hRe⟩ : ∃ R, R = vec (yR n S) := ⟨_, rfl⟩
          have HA := Lib.hid hAe.symm
          have HR := Lib.hid hRe
          have OR := Lib.hid (show R.all (·.oneCell') = true by rw [hRe]; exact vec_one _)
          have PC := Lib.hid (show ∀ w', D2 w g6 g8 k (rS k b n) w' → ∀ i v, K[i]? = some v → w'.cell? ⟨g8, n * 16 + i, none⟩ = some v from fun w' h => by rw [hKe]; exact piece PW.out h.b8)
          rw [← hAe, ← hKe, ← hRe] at CT
          rw [← hKe] at UK
          rw [← hAe] at UA
          rw [← hRe] at UR SR
          clear BB HRk la ya hxe lS yS hBe hSe hAe hKe hRe hj hpos hn
          go_upto_region 11 with fail
          refine with_act fun a0 ha0 => ?_
          have hl : tabD.length = a0.tmps.size := by rw [ha0]; rfl
          have k3 : a0.tmps[3]?.getD undef = .pointer (some ⟨w.heap.size + 1, 0, none⟩) := by rw [ha0]; rfl
          have k8 : a0.tmps[8]?.getD undef = .pointer (some ⟨g8, 0, none⟩) := by rw [ha0]; rfl
          have k9 : a0.tmps[9]?.getD undef = .int .i64 (n : Int) := by rw [ha0]; rfl
          refine wp_region_end 5 (by kernel_rfl) tabD (by kernel_rfl) (by kernel_rfl) hl (by kernel_rfl) (by kernel_rfl) (fun i => a0.tmps[i + 33]?.getD undef) (by rw [ha0]; rfl) (D2 w g6 g8 k (rS k b n)) (DV g8 n A K R) ?_ (DV.keep _ _ _ _ _) ⟨?_, ?_, ?_, ?_, ?_, trivial⟩ ?_
          · exact HB.out.heap rfl rfl rfl rfl
          · refine step_plain [] (by kernel_rfl) rfl fun us w' hG hV => ?_
            have o3 := (frame_old2 (us := us) (a := a0) (show (tabD[3]?).join = none from rfl)).trans k3
            have hg1 := hG.b1.row
            rw [HA.out] at hg1
            generalize frame tabD a0 us = fr at *
            exact load_ok 22 3 rfl (w.heap.size + 1) o3 _ _ _ _ hg1 Try.underlying22 rfl UA.out hG rfl
          · refine step_plain [] (by kernel_rfl) rfl fun us w' hG hV => ?_
            have o9 := (frame_old2 (us := us) (a := a0) (show (tabD[9]?).join = none from rfl)).trans k9
            generalize frame tabD a0 us = fr at *
            exact val_ok (v := .int .i64 (n : Int)) (w' := w') (by go_simp) hG (Below.refl _ _) rfl
          · refine step_plain [1] (by kernel_rfl) rfl fun us w' hG hV => ?_
            have e1 : us 1 = .int .i64 (n : Int) := hV 1 (by simp)
            have v1 := (frame_at2 (us := us) hl (show (tabD[34]?).join = some 1 from rfl)).trans e1
            have o8 := (frame_old2 (us := us) (a := a0) (show (tabD[8]?).join = none from rfl)).trans k8
            have n11 := N11.out
            generalize frame tabD a0 us = fr at *
            exact val_ok (v := .pointer (some ⟨g8, n * 16, none⟩)) (w' := w') (by go_simp) hG (Below.refl _ _) rfl
          · refine step_plain [2] (by kernel_rfl) rfl fun us w' hG hV => ?_
            have e2 : us 2 = .pointer (some ⟨g8, n * 16, none⟩) := hV 2 (by simp)
            have v2 := (frame_at2 (us := us) hl (show (tabD[35]?).join = some 2 from rfl)).trans e2
            have hc := PC.out w' hG
            generalize frame tabD a0 us = fr at *
            exact loadp_ok 22 35 rfl g8 (n * 16) v2 K _ hc Try.underlying22 rfl UK.out hG rfl
          · refine step_plain [0, 3] (by kernel_rfl) rfl fun us w' hG hV => ?_
            have e0 : us 0 = .agg A := hV 0 (by simp)
            have v0 := (frame_at2 (us := us) hl (show (tabD[33]?).join = some 0 from rfl)).trans e0
            have e3 : us 3 = .agg K := hV 3 (by simp)
            have v3 := (frame_at2 (us := us) hl (show (tabD[36]?).join = some 3 from rfl)).trans e3
            generalize frame tabD a0 us = fr at *
            exact call_ok (f := 24) (args := #[.agg A, .agg K]) (by go_simp) ((CT.out w').mono fun e w'' h => ⟨_, h.1, hG.below h.2, h.2, rfl⟩)
          · intro us w' o ho hG hV
            obtain rfl := Option.some.inj ho
            have e4 : us 4 = .agg R := hV 4 (by decide)
            have v4 := (frame_at2 (us := us) hl (show (tabD[37]?).join = some 4 from rfl)).trans e4
            have o3 := (frame_old2 (us := us) (a := a0) (show (tabD[3]?).join = none from rfl)).trans k3
            have hg1 := hG.b1.row
            refine store_J 22 3 37 rfl (w.heap.size + 1) R o3 v4 _ _ hg1 UR.out SR.out OR.out ?_
            have hT : D2 w g6 g8 k (yR n S) (w'.setRow (w.heap.size + 1) R) := by rw [HR.out]; exact hG.put
            have HT := Lib.hid hT
            have RR := Lib.hid (show (w'.setRow (w.heap.size + 1) R).heap[w.heap.size + 1]? = some (.cells R 22 (0, 0)) by rw [HR.out]; rw [HR.out] at hT; exact hT.b1.row)
            generalize w'.setRow (w.heap.size + 1) R = wt at *
            subst ha0
            simp only [Act.put, frame, tabD, fill]
            have SK := Lib.hid (show Z.size = R.size by rw [HZ.out, HR.out, vec_size, LY.out])
            have H5 : Hid (D3 w g6 g8 wt.heap.size k (yR n S) (yR n S) (wt.alloc (.cells R 22))) := Lib.hid (by rw [HR.out]; exact hT.d3)
            clear hV v4 o3 e4 hG hg1 k3 k8 k9 hl CT PC UA UK SR HA PW HB hT
            go_upto_region 13 with (first
              | (refine wpList_load_row rfl 22 (.tmp 3) rfl (w.heap.size + 1) rfl _ _ _ _ RR.out Try.underlying22 rfl UR.out ?_)
              | (refine wpList_store_row rfl 22 (.tmp 10) (.tmp 38) rfl wt.heap.size _ rfl rfl _ _ (heap_alloc_new _ _) UR.out SK.out OR.out ?_))
            rw [World.setRow_alloc_new]
            have H5' := H5.out
            generalize wt.alloc (.cells R 22) = w5 at *
            generalize wt.heap.size = g10 at *
            have H6 := Lib.hid H5'
            clear H5 H5' RR SK OR UR HT
            by_cases hten : n < 10
            · have hnten : (n : Int) < 10 := by omega
              have hyR : yR n S = mixL S := by unfold yR; rw [if_pos hten]
              have H8 : Hid (D3 w g6 g8 g10 k (mixL S) (mixL S) w5) := Lib.hid (by rw [← hyR]; exact H6.out)
              have HY0 := Lib.hid hyR
              clear hten hyR H6
              go_wp2_with fail
              go_loopw [11] (fun c wx => ∃ c' : Nat, c' ≤ 4 ∧ c = .int .i64 c' ∧ D3 w g6 g8 g10 k (mixL S) (mixP S (mixL S) (c' * 4)) wx) (fun c _ => 4 - (intOf c).toNat)
              case atStart => exact ⟨0, by omega, rfl, by rw [Nat.zero_mul, mixP_zero]; exact H8.out⟩
              case round =>
                obtain ⟨c, hc, rfl, BC⟩ := hrel
                have hlm : S.length = (mixL S).length := by rw [mixL_len, LS.out]
                have HLM := Lib.hid hlm
                have YM := Lib.hid (mixL_by YSS.out)
                clear hlm
                by_cases hct : c < 4
                · have hcz : (c : Int) < 4 := by omega
                  obtain ⟨c4, hc4⟩ : ∃ c4, c4 = c * 4 := ⟨_, rfl⟩
                  have e1 : (4 : Int) * (c : Int) = (c4 : Int) := by omega
                  have c12 : (c4 : Int) ≤ 12 := by omega
                  have wc4 : IntKind.i64.wrap (c4 : Int) = (c4 : Int) := IntWalk.i64_in _ (by omega)
                  have C12 := Lib.hid (show c4 ≤ 12 by omega)
                  have C4M := Lib.hid (show c4 % 4 = 0 by omega)
                  have HC := Lib.hid (show D3 w g6 g8 g10 k (mixL S) (mixP S (mixL S) (c4 + 0)) wr from by rw [hc4]; exact BC)
                  have HC4 := Lib.hid hc4
                  clear BC hc4
                  go_wp2_with fail
                  go_loopw [12] (fun r wx => ∃ r' : Nat, r' ≤ 4 ∧ r = .int .i64 r' ∧ D3 w g6 g8 g10 k (mixL S) (mixP S (mixL S) (c4 + r')) wx) (fun r _ => 4 - (intOf r).toNat)
                  case atStart => exact ⟨0, by omega, rfl, HC.out⟩
                  case round =>
                    obtain ⟨r, hr, rfl, BR⟩ := hrel
                    by_cases hrt : r < 4
                    · have hrz : (r : Int) < 4 := by omega
                      obtain ⟨j0, hj0⟩ : ∃ j0, j0 = c4 + r := ⟨_, rfl⟩
                      have f0 : (c4 : Int) + (r : Int) = (j0 : Int) := by omega
                      have wj0 : IntKind.i64.wrap (j0 : Int) = (j0 : Int) := IntWalk.i64_in _ (by omega)
                      have lj0 : (j0 : Int) < 16 := by omega
                      have nj0 : j0 < 16 := by omega
                      obtain ⟨r1, m1, j1, a1, b1, t1, f1, wr1, wm1, wj1, lj1, nj1, Hj1⟩ := idx_of (c4 := c4) (r := r) 1 1 rfl (by decide) hrt C12.out C4M.out
                      obtain ⟨r2, m2, j2, a2, b2, t2, f2, wr2, wm2, wj2, lj2, nj2, Hj2⟩ := idx_of (c4 := c4) (r := r) 2 2 rfl (by decide) hrt C12.out C4M.out
                      obtain ⟨r3, m3, j3, a3, b3, t3, f3, wr3, wm3, wj3, lj3, nj3, Hj3⟩ := idx_of (c4 := c4) (r := r) 3 3 rfl (by decide) hrt C12.out C4M.out
                      rw [← hj0] at BR
                      have x0 := BR.q.b1.cell (j := j0) (by rw [mixL_len]; exact nj0)
                      have y0 := YM.out.at j0
                      have x1 := BR.q.b1.cell (j := j1) (by rw [mixL_len]; exact nj1)
                      have y1 := YM.out.at j1
                      have x2 := BR.q.b1.cell (j := j2) (by rw [mixL_len]; exact nj2)
                      have y2 := YM.out.at j2
                      have x3 := BR.q.b1.cell (j := j3) (by rw [mixL_len]; exact nj3)
                      have y3 := YM.out.at j3
                      have hl9 : (mixP S (mixL S) j0).length = 16 := by rw [mixP_len HLM.out, mixL_len]
                      have co := BR.b10.cell (j := j0) (by rw [hl9]; exact nj0)
                      have fo := BR.b10.frozen j0
                      have hst := fun (w' : World) (B' : D3 w g6 g8 g10 k (mixL S) (mixP S (mixL S) j0) w') => B'.s10 j0 (S.getD j0 0)
                      rw [mixP_set HLM.out (by rw [mixL_len]; exact nj0), ← back_at YSS.out nj0 (j1 := j1) (j2 := j2) (j3 := j3) (by rw [Hj1.out, hj0]; exact idx_eq C4M.out hrt 1) (by rw [Hj2.out, hj0]; exact idx_eq C4M.out hrt 2) (by rw [Hj3.out, hj0]; exact idx_eq C4M.out hrt 3), show j0 + 1 = c4 + (r + 1) by rw [hj0]; rfl] at hst
                      have HS := Lib.hid hst
                      have HCo := Lib.hid BR
                      have T0 := Lib.hid (fun w => (show Calls Try.prog 18 #[.int .u8 (((mixL S).getD j0 0 : Nat) : Int), .int .u8 14] w (Drew (.int .u8 ((tms ((mixL S).getD j0 0) 14 : Nat) : Int)) w) from (times_any ((mixL S).getD j0 0) 14 w y0 (by decide)).mono fun e w' h => ⟨h.1, 0, h.2.symm⟩))
                      have T1 := Lib.hid (fun w => (show Calls Try.prog 18 #[.int .u8 (((mixL S).getD j1 0 : Nat) : Int), .int .u8 11] w (Drew (.int .u8 ((tms ((mixL S).getD j1 0) 11 : Nat) : Int)) w) from (times_any ((mixL S).getD j1 0) 11 w y1 (by decide)).mono fun e w' h => ⟨h.1, 0, h.2.symm⟩))
                      have T2 := Lib.hid (fun w => (show Calls Try.prog 18 #[.int .u8 (((mixL S).getD j2 0 : Nat) : Int), .int .u8 13] w (Drew (.int .u8 ((tms ((mixL S).getD j2 0) 13 : Nat) : Int)) w) from (times_any ((mixL S).getD j2 0) 13 w y2 (by decide)).mono fun e w' h => ⟨h.1, 0, h.2.symm⟩))
                      have T3 := Lib.hid (fun w => (show Calls Try.prog 18 #[.int .u8 (((mixL S).getD j3 0 : Nat) : Int), .int .u8 9] w (Drew (.int .u8 ((tms ((mixL S).getD j3 0) 9 : Nat) : Int)) w) from (times_any ((mixL S).getD j3 0) 9 w y3 (by decide)).mono fun e w' h => ⟨h.1, 0, h.2.symm⟩))
                      have z0 := tms_lt y0 14
                      have z1 := tms_lt y1 11
                      have z2 := tms_lt y2 13
                      have z3 := tms_lt y3 9
                      have z4 := xor_lt z0 z1
                      have z5 := xor_lt z4 z2
                      have h1 := xor_b z0 z1
                      have h2 := xor_b z4 z2
                      have h3 := xor_b z5 z3
                      generalize tms ((mixL S).getD j0 0) 14 ^^^ tms ((mixL S).getD j1 0) 11 ^^^ tms ((mixL S).getD j2 0) 13 ^^^ tms ((mixL S).getD j3 0) 9 = v3 at *
                      generalize tms ((mixL S).getD j0 0) 14 ^^^ tms ((mixL S).getD j1 0) 11 ^^^ tms ((mixL S).getD j2 0) 13 = v2 at *
                      generalize tms ((mixL S).getD j0 0) 14 ^^^ tms ((mixL S).getD j1 0) 11 = v1 at *
                      generalize tms ((mixL S).getD j0 0) 14 = u0 at *
                      generalize tms ((mixL S).getD j1 0) 11 = u1 at *
                      generalize tms ((mixL S).getD j2 0) 13 = u2 at *
                      generalize tms ((mixL S).getD j3 0) 9 = u3 at *
                      generalize (mixL S).getD j0 0 = s0 at *
                      generalize (mixL S).getD j1 0 = s1 at *
                      generalize (mixL S).getD j2 0 = s2 at *
                      generalize (mixL S).getD j3 0 = s3 at *
                      generalize (mixP S (mixL S) j0).getD j0 0 = old at *
                      clear hst BR hl9 hj0 z0 z1 z2 z3 z4 z5 y0 y1 y2 y3
                      go_upto_region 19 with fail
                      refine Go.Proofs.Ytjcdgdlononkhaa.lastC.wp_region_last 42 (by kernel_rfl) (by kernel_rfl) (by kernel_rfl) (by kernel_rfl) ?_
                      simp only [List.take_succ_cons, List.take_zero, List.drop_succ_cons, List.drop_zero]
                      repeat (first | go_big_quiet_step ((go_at_call 18; first | (with_reducible exact Calls.quiet_of (T0.out _)) | (with_reducible exact Calls.quiet_of (T1.out _)) | (with_reducible exact Calls.quiet_of (T2.out _)) | (with_reducible exact Calls.quiet_of (T3.out _)))) | quiet_step ((go_at_call 18; first | (with_reducible exact Calls.quiet_of (T0.out _)) | (with_reducible exact Calls.quiet_of (T1.out _)) | (with_reducible exact Calls.quiet_of (T2.out _)) | (with_reducible exact Calls.quiet_of (T3.out _)))))
                      refine wpQuiet_nil ?_
                      intro w2 hw2
                      obtain ⟨n2, hw3⟩ := hw2
                      subst hw3
                      have HS2 := Lib.hid (HS.out _ (HCo.out.heap (w' := wr.drewN n2) rfl rfl rfl rfl))
                      clear a1 a2 a3 b1 b2 b3 t1 t2 t3 f0 f1 f2 f3 wj0 wr1 wr2 wr3 wm1 wm2 wm3 wj1 wj2 wj3 lj0 lj1 lj2 lj3 nj1 nj2 nj3 h1 h2 h3 x0 x1 x2 x3
                      go_wp2_with fail
                      go_roundw
                      case rel => exact ⟨r + 1, by omega, by go_num, HS2.out⟩
                      case measure => simp [intOf]; omega
                    · have e : r = 4 := by omega
                      subst e
                      have HE := Lib.hid (show D3 w g6 g8 g10 k (mixL S) (mixP S (mixL S) ((c + 1) * 4)) wr by rw [show (c + 1) * 4 = c4 + 4 by rw [HC4.out]; omega]; exact BR)
                      clear BR hrt hr
                      go_wp2_with fail
                      go_roundw
                      case rel => exact ⟨c + 1, by omega, by go_num, HE.out⟩
                      case measure => simp [intOf]; omega
                · have e : c = 4 := by omega
                  subst e
                  have hf : mixP S (mixL S) (4 * 4) = S := by have := mixP_full HLM.out; rwa [mixL_len] at this
                  rw [hf, ← HY0.out] at BC
                  have H9 := Lib.hid BC
                  clear hf BC hct hc H8
                  go_wp2_with fail
                  go_loopw [13] (fun c wx => ∃ c' : Nat, c' ≤ 4 ∧ c = .int .i64 c' ∧ D3 w g6 g8 g10 k (bS B (yR n S) (c' * 4)) S wx) (fun c _ => 4 - (intOf c).toNat)
                  case atStart => exact ⟨0, by omega, rfl, by rw [Nat.zero_mul]; exact H9.out⟩
                  case round =>
                    obtain ⟨c, hc, rfl, BC⟩ := hrel
                    by_cases hct : c < 4
                    · have hcz : (c : Int) < 4 := by omega
                      obtain ⟨c4, hc4⟩ : ∃ c4, c4 = c * 4 := ⟨_, rfl⟩
                      have e1 : (4 : Int) * (c : Int) = (c4 : Int) := by omega
                      have c12 : (c4 : Int) ≤ 12 := by omega
                      have HC := Lib.hid (show D3 w g6 g8 g10 k (bS B (yR n S) (c4 + 0)) S wr from by rw [hc4]; exact BC)
                      have HC4 := Lib.hid hc4
                      clear BC hc4
                      go_wp2_with fail
                      go_loopw [14] (fun r wx => ∃ r' : Nat, r' ≤ 4 ∧ r = .int .i64 r' ∧ D3 w g6 g8 g10 k (bS B (yR n S) (c4 + r')) S wx) (fun r _ => 4 - (intOf r).toNat)
                      case atStart => exact ⟨0, by omega, rfl, HC.out⟩
                      case round =>
                        obtain ⟨r, hr, rfl, BR⟩ := hrel
                        by_cases hrt : r < 4
                        · have hrz : (r : Int) < 4 := by omega
                          obtain ⟨jj, s, q, m, p, e2, e3, e4, e5, e6, s8, q4, m12, p16, j16, jn, HPJ, HPS⟩ := back_idx HC4.out hct hrt
                          have HJJ := Lib.hid (show c4 + r = jj by omega)
                          rw [HJJ.out] at BR
                          have hlb : (bS B (yR n S) jj).length = 16 := bS_len LY.out jj
                          have cx := BR.b10.cell (j := jj) (by rw [LS.out]; exact jn)
                          have hsx : S.getD jj 0 = box (B.getD p 0) := by
                            have h1 : (shL B).getD jj 0 = box (B.getD ((jj + jj % 4 * 4) % 16) 0) := getD_map jn
                            rw [HSE.out, h1, HPS.out]
                          rw [hsx] at cx
                          have hyb := box_lt (B.getD p 0)
                          have cb := BR.q.b6.cell (j := box (B.getD p 0)) (by rw [show back.length = 256 from backS_len 256]; exact hyb)
                          rw [back_box (YBB.out.at p)] at cb
                          have co := BR.q.b1.cell (j := p) (by rw [hlb]; omega)
                          have fo := BR.q.b1.frozen p
                          have hst := BR.s1 p (B.getD p 0)
                          rw [show (bS B (yR n S) jj).set p (B.getD p 0) = bS B (yR n S) (c4 + (r + 1)) by rw [show c4 + (r + 1) = jj + 1 by rw [← HJJ.out]; rfl, bS, HPJ.out]] at hst
                          have HS := Lib.hid hst
                          generalize box (B.getD p 0) = y at *
                          generalize B.getD p 0 = x at *
                          have yz : (y : Int) < 256 := by omega
                          generalize (bS B (yR n S) jj).getD p 0 = old at *
                          clear hst hsx BR hlb hyb HPJ HPS HJJ
                          go_wp2_with fail
                          go_roundw
                          case rel => exact ⟨r + 1, by omega, by go_num, HS.out⟩
                          case measure => simp [intOf]; omega
                        · have e : r = 4 := by omega
                          subst e
                          have HE := Lib.hid (show D3 w g6 g8 g10 k (bS B (yR n S) ((c + 1) * 4)) S wr by rw [show (c + 1) * 4 = c4 + 4 by rw [HC4.out]; omega]; exact BR)
                          clear BR hrt hr
                          go_wp2_with fail
                          go_roundw
                          case rel => exact ⟨c + 1, by omega, by go_num, HE.out⟩
                          case measure => simp [intOf]; omega
                    · have e : c = 4 := by omega
                      subst e
                      have HE := Lib.hid (show D2 w g6 g8 k (rS k b j) wr by rw [← HBE.out, ← bS_all (Y := yR n S) LBB.out LY.out]; exact BC.q)
                      have hj11 : (j : Int) < 10 := by have := HJ.out; have := HN.out; omega
                      clear BC hct hc
                      go_wp2_with fail
                      go_roundw
                      case rel => exact ⟨j, by omega, by go_num, HE.out⟩
                      case measure => have := HJ.out; simp [intOf]; omega
            · have hnten : ¬ (n : Int) < 10 := by omega
              have hyR : yR n S = S := by unfold yR; rw [if_neg hten]
              have H9 : Hid (D3 w g6 g8 g10 k (yR n S) S w5) := Lib.hid (by have h := H6.out; rw [hyR] at h ⊢; exact h)
              clear hten hyR H6
              go_wp2_with fail
              go_loopw [11] (fun c wx => c = .int .i64 0 ∧ D3 w g6 g8 g10 k (yR n S) S wx) (fun _ _ => 0)
              case atStart => exact ⟨rfl, H9.out⟩
              case round =>
                obtain ⟨rfl, BC⟩ := hrel
                have H9 := Lib.hid BC
                clear BC
                go_wp2_with fail
                go_loopw [13] (fun c wx => ∃ c' : Nat, c' ≤ 4 ∧ c = .int .i64 c' ∧ D3 w g6 g8 g10 k (bS B (yR n S) (c' * 4)) S wx) (fun c _ => 4 - (intOf c).toNat)
                case atStart => exact ⟨0, by omega, rfl, by rw [Nat.zero_mul]; exact H9.out⟩
                case round =>
                  obtain ⟨c, hc, rfl, BC⟩ := hrel
                  by_cases hct : c < 4
                  · have hcz : (c : Int) < 4 := by omega
                    obtain ⟨c4, hc4⟩ : ∃ c4, c4 = c * 4 := ⟨_, rfl⟩
                    have e1 : (4 : Int) * (c : Int) = (c4 : Int) := by omega
                    have c12 : (c4 : Int) ≤ 12 := by omega
                    have HC := Lib.hid (show D3 w g6 g8 g10 k (bS B (yR n S) (c4 + 0)) S wr from by rw [hc4]; exact BC)
                    have HC4 := Lib.hid hc4
                    clear BC hc4
                    go_wp2_with fail
                    go_loopw [14] (fun r wx => ∃ r' : Nat, r' ≤ 4 ∧ r = .int .i64 r' ∧ D3 w g6 g8 g10 k (bS B (yR n S) (c4 + r')) S wx) (fun r _ => 4 - (intOf r).toNat)
                    case atStart => exact ⟨0, by omega, rfl, HC.out⟩
                    case round =>
                      obtain ⟨r, hr, rfl, BR⟩ := hrel
                      by_cases hrt : r < 4
                      · have hrz : (r : Int) < 4 := by omega
                        obtain ⟨jj, s, q, m, p, e2, e3, e4, e5, e6, s8, q4, m12, p16, j16, jn, HPJ, HPS⟩ := back_idx HC4.out hct hrt
                        have HJJ := Lib.hid (show c4 + r = jj by omega)
                        rw [HJJ.out] at BR
                        have hlb : (bS B (yR n S) jj).length = 16 := bS_len LY.out jj
                        have cx := BR.b10.cell (j := jj) (by rw [LS.out]; exact jn)
                        have hsx : S.getD jj 0 = box (B.getD p 0) := by
                          have h1 : (shL B).getD jj 0 = box (B.getD ((jj + jj % 4 * 4) % 16) 0) := getD_map jn
                          rw [HSE.out, h1, HPS.out]
                        rw [hsx] at cx
                        have hyb := box_lt (B.getD p 0)
                        have cb := BR.q.b6.cell (j := box (B.getD p 0)) (by rw [show back.length = 256 from backS_len 256]; exact hyb)
                        rw [back_box (YBB.out.at p)] at cb
                        have co := BR.q.b1.cell (j := p) (by rw [hlb]; omega)
                        have fo := BR.q.b1.frozen p
                        have hst := BR.s1 p (B.getD p 0)
                        rw [show (bS B (yR n S) jj).set p (B.getD p 0) = bS B (yR n S) (c4 + (r + 1)) by rw [show c4 + (r + 1) = jj + 1 by rw [← HJJ.out]; rfl, bS, HPJ.out]] at hst
                        have HS := Lib.hid hst
                        generalize box (B.getD p 0) = y at *
                        generalize B.getD p 0 = x at *
                        have yz : (y : Int) < 256 := by omega
                        generalize (bS B (yR n S) jj).getD p 0 = old at *
                        clear hst hsx BR hlb hyb HPJ HPS HJJ
                        go_wp2_with fail
                        go_roundw
                        case rel => exact ⟨r + 1, by omega, by go_num, HS.out⟩
                        case measure => simp [intOf]; omega
                      · have e : r = 4 := by omega
                        subst e
                        have HE := Lib.hid (show D3 w g6 g8 g10 k (bS B (yR n S) ((c + 1) * 4)) S wr by rw [show (c + 1) * 4 = c4 + 4 by rw [HC4.out]; omega]; exact BR)
                        clear BR hrt hr
                        go_wp2_with fail
                        go_roundw
                        case rel => exact ⟨c + 1, by omega, by go_num, HE.out⟩
                        case measure => simp [intOf]; omega
                  · have e : c = 4 := by omega
                    subst e
                    have HE := Lib.hid (show D2 w g6 g8 k (rS k b j) wr by rw [← HBE.out, ← bS_all (Y := yR n S) LBB.out LY.out]; exact BC.q)
                    have hj11 : (j : Int) < 10 := by have := HJ.out; have := HN.out; omega
                    clear BC hct hc
                    go_wp2_with fail
                    go_roundw
                    case rel => exact ⟨j, by omega, by go_num, HE.out⟩
                    case measure => have := HJ.out; simp [intOf]; omega
        · have e : n = 0 := by omega
          subst e
          obtain ⟨A, hA⟩ : ∃ A, A = vec (rS k b 0) := ⟨_, rfl⟩
          obtain ⟨K, hK⟩ : ∃ K, K = vec (rk k 0) := ⟨_, rfl⟩
          obtain ⟨R, hR⟩ : ∃ R, R = vec b := ⟨_, rfl⟩
          have HRk := rk_ok YK.out HK.out 0
          have CT := Lib.hid (fun w => turned_any (rS k b 0) (rk k 0) w (rS_len k b 0) HRk.2 (YS.out 0) HRk.1)
          rw [show xorL (rS k b 0) (rk k 0) = b from xorL_twice LB.out, ← hA, ← hK, ← hR] at CT
          have UA := Lib.hid (show (Try.prog.info? 22).map (·.size) = some A.size by rw [hA]; exact vec_info (rS_len k b 0))
          have UK := Lib.hid (show (Try.prog.info? 22).map (·.size) = some K.size by rw [hK]; exact vec_info HRk.2)
          have RA := Lib.hid (show wr.heap[w.heap.size + 1]? = some (.cells A 22 (0, 0)) by rw [hA]; exact BB.b1.row)
          have PK := Lib.hid (show ∀ i v, K[i]? = some v → wr.cell? ⟨g8, 0 + i, none⟩ = some v by
            rw [hK]; exact piece (by have := FL_win YK.out HK.out (n := 0) (by omega); rw [Nat.mul_zero] at this; exact this) BB.b8)
          have OR := Lib.hid (show R.all (·.oneCell') = true by rw [hR]; exact vec_one _)
          have HB := Lib.hid BB
          rw [← hR] at UB ZB
          have HR := Lib.hid hR
          rw [← hR]
          clear BB hn hpos hA hK hR HRk
          go_wp2_with (first
            | (refine wpList_load_row rfl 22 (.tmp 3) rfl (w.heap.size + 1) rfl _ _ _ _ RA.out Try.underlying22 rfl UA.out ?_)
            | (refine wpList_load_piece rfl 22 (.tmp 118) rfl g8 0 rfl K _ PK.out Try.underlying22 rfl UK.out ?_)
            | (go_at_call 24; (with_reducible refine (CT.out _).mono ?_); rintro e w5 ⟨rfl, B5⟩
               have H5 := Lib.hid (HB.out.below B5)
               clear B5)
            | (refine wpList_store_row rfl 22 (.tmp 4) (.tmp 120) rfl (w.heap.size + 1 + 1) _ rfl rfl _ _ H5.out.b2.row UB.out ZB.out OR.out ?_))
          refine bodyPost_ret (v := .agg R) (results_cell_row Try.results19 _ _ (w.heap.size + 1 + 1) _ _ _ _ (by rfl) (setRow_heap _ _ _ _ _ _ H5.out.b2.row) Try.underlying22 rfl UB.out) rfl ⟨by rw [HR.out], ?_⟩
          exact below_setRow H5.out.bel (by omega) _
end Go.Proofs.Ytjcdgdlononkhaa.aesC
