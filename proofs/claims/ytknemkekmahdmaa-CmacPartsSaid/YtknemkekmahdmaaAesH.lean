/-
  AES: the code's multiply.
-/
import Derived.Test.YtknemkekmahdmaaAesG
namespace Go.Proofs.Ytknemkekmahdmaa.aesC
open Go.ChangeShapes Go.WideShapes Go.ChangeAt Go.RowKit
open Go.Proofs.Ytknemkekmahdmaa.memC Go.Proofs.Ytknemkekmahdmaa.genC Go.Proofs.Ytknemkekmahdmaa.aesM Go.Proofs.Ytknemkekmahdmaa.freeC
set_option linter.unusedVariables false
theorem NG.heap {w wr w' : World} {k : List Nat} (B : NG w k wr) (e : w'.heap = wr.heap) (e1 : w'.os = wr.os) (e2 : w'.tape = wr.tape) (e3 : w'.output = wr.output) : NG w k w' :=
  ⟨B.b0.heap e, B.b1.heap e, B.bel.trans ⟨e1, e2, e3, by rw [e]; exact Nat.le_refl _, fun k _ => by rw [e]⟩⟩
theorem NG.sk {w wr : World} {k : List Nat} (B : NG w k wr) (j x : Nat) : NG w (k.set j x) (wr.setCell ⟨w.heap.size, j, none⟩ (.int .u8 (x : Int))) :=
  ⟨B.b0.stored j x, B.b1.other (by show w.heap.size ≠ w.heap.size + 1; omega) _, B.bel.setCell (p := ⟨w.heap.size, j, none⟩) (Nat.le_refl _) _⟩
/-- a block, each column of which is multiplied -/
def mixL (x : List Nat) : List Nat := (List.range 16).map fun j => tms (x.getD j 0) 2 ^^^ tms (x.getD (4 * (j / 4) + (j + 1) % 4) 0) 3 ^^^ x.getD (4 * (j / 4) + (j + 2) % 4) 0 ^^^ x.getD (4 * (j / 4) + (j + 3) % 4) 0
theorem mixL_len (x : List Nat) : (mixL x).length = 16 := by simp [mixL]
theorem mixL_by {x : List Nat} (h : BY x) : BY (mixL x) := BY.map fun i _ => xor_lt (xor_lt (xor_lt (tms_lt (h.at _) 2) (tms_lt (h.at _) 3)) (h.at _)) (h.at _)
theorem mixL_at (x : List Nat) {i j : Nat} (h : j < 16) {a b c d : Nat} (ha : a = j) (hb : b = 4 * (j / 4) + (j + 1) % 4) (hc : c = 4 * (j / 4) + (j + 2) % 4) (hd : d = 4 * (j / 4) + (j + 3) % 4) :
    (mixL x).getD j 0 = tms (x.getD a 0) 2 ^^^ tms (x.getD b 0) 3 ^^^ x.getD c 0 ^^^ x.getD d 0 := by
  subst ha hb hc hd; exact getD_map h
theorem mix_code {x y z u : Nat} (hx : x < 256) (hy : y < 256) : dbl (x ^^^ y) ^^^ y ^^^ z ^^^ u = tms x 2 ^^^ tms y 3 ^^^ z ^^^ u := by
  rw [tms2 hx, tms3 hy, dbl_xor hx hy]
  ac_rfl
/-- what a byte of a column comes to -/
theorem chain {x y z u : Nat} (hx : x < 256) (hy : y < 256) (hz : z < 256) (hu : u < 256) : ∃ p d a c v : Nat, bits .xor .u8 (x : Int) (y : Int) = (p : Int) ∧
    Hid (∀ w, Calls Try.prog 34 #[.int .u8 (p : Int)] w (Same w (.int .u8 (d : Int)))) ∧ bits .xor .u8 (d : Int) (y : Int) = (a : Int) ∧ bits .xor .u8 (a : Int) (z : Int) = (c : Int) ∧ bits .xor .u8 (c : Int) (u : Int) = (v : Int) ∧
    Hid (v = tms x 2 ^^^ tms y 3 ^^^ z ^^^ u) := by
  have hp := xor_lt hx hy
  have hd := dbl_lt hp
  have ha := xor_lt hd hy
  have hc := xor_lt ha hz
  exact ⟨x ^^^ y, dbl (x ^^^ y), _, _, _, xor_b hx hy, Lib.hid fun w => double_any _ w hp, xor_b hd hy, xor_b ha hz, xor_b hc hu, Lib.hid (mix_code hx hy)⟩
set_option maxRecDepth 100000 in
set_option maxHeartbeats 1000000 in
theorem multiply_any (b : List Nat) (w : World) (hb : b.length = 16) (yb : BY b) :
    Calls Try.prog 30 #[.agg (vec b)] w (Ret w (.agg (vec (mixL b)))) := by
  have T0 := Lib.hid (ng_new w b)
  obtain ⟨X, hX⟩ : ∃ X, X = vec b := ⟨_, rfl⟩
  obtain ⟨Z, hZ⟩ : ∃ Z, Z = vec (zs 16) := ⟨_, rfl⟩
  rw [← hX]
  have hzv := zero16
  rw [← hZ] at hzv
  obtain ⟨W, hW⟩ : ∃ W, W = (w.alloc (.cells X 22)).alloc (.cells Z 22) := ⟨_, rfl⟩
  have T1 : Hid (NG w b W) := Lib.hid (by rw [hW, hX, hZ]; exact T0.out)
  have HL := Lib.hid (mixL_len b)
  have L2 := Lib.hid hb
  have U1 := Lib.hid (show (Try.prog.info? 22).map (·.size) = some (vec (mixL b)).size by rw [b16_info, vec_size, mixL_len])
  have YB := Lib.hid yb
  clear T0 hb hX hZ yb
  go_enter Try.func30, Try.ntmps30
  go_upto_region 1 with fail
  rw [← hW]
  clear hW hzv
  go_wp2_with fail
  go_loopw [3] (fun i wr => ∃ n k : Nat, k ≤ 4 ∧ Hid (n = 4 * k) ∧ i = .int .i64 n ∧ NG w (mixP (mixL b) b n) wr) (fun i _ => 16 - (intOf i).toNat)
  case atStart => exact ⟨0, 0, by omega, Lib.hid rfl, rfl, by rw [mixP_zero]; exact T1.out⟩
  case round =>
    obtain ⟨n, k, hk, hn, rfl, BB⟩ := hrel
    have hlen : (mixL b).length = b.length := by rw [HL.out, L2.out]
    have hn' := hn.out
    by_cases hlt : k < 4
    · have hnz : (n : Int) < 16 := by omega
      obtain ⟨n1, hn1⟩ : ∃ n1, n1 = n + 1 := ⟨_, rfl⟩
      obtain ⟨n2, hn2⟩ : ∃ n2, n2 = n + 2 := ⟨_, rfl⟩
      obtain ⟨n3, hn3⟩ : ∃ n3, n3 = n + 3 := ⟨_, rfl⟩
      have hll : ∀ j, j < 16 → j < (mixP (mixL b) b n).length := fun j hj => by rw [mixP_len hlen, L2.out]; exact hj
      have c0 := BB.b0.cell (hll n (by omega))
      have c1 := BB.b0.cell (hll n1 (by omega))
      have c2 := BB.b0.cell (hll n2 (by omega))
      have c3 := BB.b0.cell (hll n3 (by omega))
      rw [mixP_old hlen (by omega)] at c0 c1 c2 c3
      have x0 := YB.out.at n
      have x1 := YB.out.at n1
      have x2 := YB.out.at n2
      have x3 := YB.out.at n3
      have m0 := mixL_at b (i := k) (j := n) (a := n) (b := n1) (c := n2) (d := n3) (by omega) rfl (by omega) (by omega) (by omega)
      have m1 := mixL_at b (i := k) (j := n1) (a := n1) (b := n2) (c := n3) (d := n) (by omega) rfl (by omega) (by omega) (by omega)
      have m2 := mixL_at b (i := k) (j := n2) (a := n2) (b := n3) (c := n) (d := n1) (by omega) rfl (by omega) (by omega) (by omega)
      have m3 := mixL_at b (i := k) (j := n3) (a := n3) (b := n) (c := n1) (d := n2) (by omega) rfl (by omega) (by omega) (by omega)
      have hst : ∀ wr, NG w (mixP (mixL b) b n) wr → NG w (mixP (mixL b) b (n + 4)) ((((wr.setCell ⟨w.heap.size, n, none⟩ (.int .u8 (((mixL b).getD n 0 : Nat) : Int))).setCell ⟨w.heap.size, n1, none⟩ (.int .u8 (((mixL b).getD n1 0 : Nat) : Int))).setCell ⟨w.heap.size, n2, none⟩ (.int .u8 (((mixL b).getD n2 0 : Nat) : Int))).setCell ⟨w.heap.size, n3, none⟩ (.int .u8 (((mixL b).getD n3 0 : Nat) : Int))) := fun wr B => by
        have h1 := B.sk n ((mixL b).getD n 0)
        rw [mixP_set hlen (by rw [L2.out]; omega), ← hn1] at h1
        have h2 := h1.sk n1 ((mixL b).getD n1 0)
        rw [mixP_set hlen (by rw [L2.out]; omega), show n1 + 1 = n2 by omega] at h2
        have h3 := h2.sk n2 ((mixL b).getD n2 0)
        rw [mixP_set hlen (by rw [L2.out]; omega), show n2 + 1 = n3 by omega] at h3
        have h4 := h3.sk n3 ((mixL b).getD n3 0)
        rw [mixP_set hlen (by rw [L2.out]; omega), show n3 + 1 = n + 4 by omega] at h4
        exact h4
      have HS := Lib.hid hst
      rw [m0, m1, m2, m3] at HS
      generalize b.getD n 0 = y0 at *
      generalize b.getD n1 0 = y1 at *
      generalize b.getD n2 0 = y2 at *
      generalize b.getD n3 0 = y3 at *
      clear m0 m1 m2 m3 hst hll
      obtain ⟨p0, d0, a0, q0, v0, P0, D0, A0, Q0, R0, V0⟩ := chain x0 x1 x2 x3
      obtain ⟨p1, d1, a1, q1, v1, P1, D1, A1, Q1, R1, V1⟩ := chain x1 x2 x3 x0
      obtain ⟨p2, d2, a2, q2, v2, P2, D2, A2, Q2, R2, V2⟩ := chain x2 x3 x0 x1
      obtain ⟨p3, d3, a3, q3, v3, P3, D3, A3, Q3, R3, V3⟩ := chain x3 x0 x1 x2
      rw [← V0.out, ← V1.out, ← V2.out, ← V3.out] at HS
      have z1 : (n : Int) + 1 = (n1 : Int) := by omega
      have z2 : (n : Int) + 2 = (n2 : Int) := by omega
      have z3 : (n : Int) + 3 = (n3 : Int) := by omega
      have l1 : (n1 : Int) < 16 := by omega
      have l2 : (n2 : Int) < 16 := by omega
      have l3 : (n3 : Int) < 16 := by omega
      have HB := Lib.hid BB
      have hnq : (n : Int) + 4 = ((n + 4 : Nat) : Int) := by omega
      have HNQ := Lib.hid hnq
      have HK := Lib.hid (show n + 4 = 4 * (k + 1) by omega)
      have F := Lib.hid (fun wr (B : NG w (mixP (mixL b) b n) wr) j => B.b0.frozen j)
      clear V0 V1 V2 V3 BB hlen hn hn' hn1 hn2 hn3 hnq
      go_upto_region 4 with fail
      go_quiet (fail)
      have B5 : NG w (mixP (mixL b) b n) (wr.drewN nq) := HB.out.heap rfl rfl rfl rfl
      have c0 : (wr.drewN nq).cell? ⟨w.heap.size, n, none⟩ = some (.int .u8 (y0 : Int)) := c0
      have c1 : (wr.drewN nq).cell? ⟨w.heap.size, n1, none⟩ = some (.int .u8 (y1 : Int)) := c1
      have c2 : (wr.drewN nq).cell? ⟨w.heap.size, n2, none⟩ = some (.int .u8 (y2 : Int)) := c2
      have c3 : (wr.drewN nq).cell? ⟨w.heap.size, n3, none⟩ = some (.int .u8 (y3 : Int)) := c3
      generalize wr.drewN nq = w5 at *
      have f0 := F.out _ B5 n
      have f1 := F.out _ B5 n1
      have f2 := F.out _ B5 n2
      have f3 := F.out _ B5 n3
      have H5 := Lib.hid (HS.out _ B5)
      have g01 : n1 ≠ n := by omega
      have g02 : n2 ≠ n := by omega
      have g03 : n3 ≠ n := by omega
      have g12 : n2 ≠ n1 := by omega
      have g13 : n3 ≠ n1 := by omega
      have g23 : n3 ≠ n2 := by omega
      clear B5 F HS HB
      go_wp2_with (first
        | (go_at_call 34; (with_reducible refine (D0.out _).mono ?_); rintro e w1 ⟨rfl, rfl⟩)
        | (go_at_call 34; (with_reducible refine (D1.out _).mono ?_); rintro e w1 ⟨rfl, rfl⟩)
        | (go_at_call 34; (with_reducible refine (D2.out _).mono ?_); rintro e w1 ⟨rfl, rfl⟩)
        | (go_at_call 34; (with_reducible refine (D3.out _).mono ?_); rintro e w1 ⟨rfl, rfl⟩))
      go_roundw
      case rel => exact ⟨n + 4, k + 1, by omega, HK, by rw [← HNQ.out], H5.out⟩
      case measure => simp [intOf]; omega
    · have e : n = 16 := by omega
      subst e
      have hf : mixP (mixL b) b 16 = mixL b := by have := mixP_full hlen; rwa [L2.out] at this
      rw [hf] at BB
      have G1 := Lib.hid BB.b0.row
      have G2 := Lib.hid BB.b1.row
      have BQ := Lib.hid BB.bel
      clear BB hlen hf hlt hk hn hn'
      go_wp2_with (first
        | (refine wpList_load_row rfl 22 (.tmp 1) rfl w.heap.size rfl _ _ _ _ G1.out Try.underlying22 rfl U1.out ?_)
        | (refine wpList_store_row rfl 22 (.tmp 2) (.tmp 78) rfl (w.heap.size + 1) _ rfl rfl _ _ G2.out U1.out (by rw [vec_size, vec_size, HL.out]; rfl) (vec_one _) ?_))
      refine bodyPost_ret (v := .agg (vec (mixL b))) (results_cell_row Try.results30 _ _ (w.heap.size + 1) _ _ _ _ (by rfl) (setRow_heap _ _ _ _ _ _ G2.out) Try.underlying22 rfl U1.out) rfl ⟨rfl, ?_⟩
      exact below_setRow BQ.out (by omega) _
end Go.Proofs.Ytknemkekmahdmaa.aesC
