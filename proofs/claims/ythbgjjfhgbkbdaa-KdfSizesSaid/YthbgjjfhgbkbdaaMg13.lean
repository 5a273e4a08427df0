/-
  9 texts of a proof, joined.
-/
import Derived.Test.YthbgjjfhgbkbdaaMg12
import Derived.Test.YthbgjjfhgbkbdaaMg6
import Derived.Test.YthbgjjfhgbkbdaaMg3

/-
  AES: a block turned by another one.
-/
namespace Go.Proofs.Ythbgjjfhgbkbdaa.aesC
open Go.ChangeShapes Go.WideShapes Go.ChangeAt Go.RowKit
open Go.Proofs.Ythbgjjfhgbkbdaa.memC Go.Proofs.Ythbgjjfhgbkbdaa.genC Go.Proofs.Ythbgjjfhgbkbdaa.aesM
set_option linter.unusedVariables false
def xorL (a b : List Nat) : List Nat := (List.range 16).map fun i => a.getD i 0 ^^^ b.getD i 0
theorem xorL_len (a b : List Nat) : (xorL a b).length = 16 := by simp [xorL]
theorem xorL_by {a b : List Nat} (ha : BY a) (hb : BY b) : BY (xorL a b) := BY.map fun i _ => xor_lt (ha.at i) (hb.at i)
/-- the blocks that a call lays: three of 16 bytes -/
structure B3 (w : World) (a b c : List Nat) (wr : World) : Prop where
  b0 : Bl 32 wr w.heap.size a
  b1 : Bl 32 wr (w.heap.size + 1) b
  b2 : Bl 32 wr (w.heap.size + 1 + 1) c
  bel : Below w.heap.size w wr
section
variable {w wr w' : World} {a b c : List Nat}
theorem B3.heap (B : B3 w a b c wr) (e : w'.heap = wr.heap) (e1 : w'.os = wr.os) (e2 : w'.tape = wr.tape) (e3 : w'.output = wr.output) : B3 w a b c w' :=
  ⟨B.b0.heap e, B.b1.heap e, B.b2.heap e, B.bel.trans ⟨e1, e2, e3, by rw [e]; exact Nat.le_refl _, fun k _ => by rw [e]⟩⟩
theorem B3.s0 (B : B3 w a b c wr) (j x : Nat) : B3 w (a.set j x) b c (wr.setCell ⟨w.heap.size, j, none⟩ (.int .u8 (x : Int))) :=
  ⟨B.b0.stored j x, B.b1.other (by show w.heap.size ≠ w.heap.size + 1; omega) _, B.b2.other (by show w.heap.size ≠ w.heap.size + 1 + 1; omega) _, B.bel.setCell (p := ⟨w.heap.size, j, none⟩) (Nat.le_refl _) _⟩
theorem B3.s2 (B : B3 w a b c wr) (j x : Nat) : B3 w a b (c.set j x) (wr.setCell ⟨w.heap.size + 1 + 1, j, none⟩ (.int .u8 (x : Int))) :=
  ⟨B.b0.other (by show w.heap.size + 1 + 1 ≠ w.heap.size; omega) _, B.b1.other (by show w.heap.size + 1 + 1 ≠ w.heap.size + 1; omega) _, B.b2.stored j x, B.bel.setCell (p := ⟨w.heap.size + 1 + 1, j, none⟩) (by show w.heap.size ≤ w.heap.size + 1 + 1; omega) _⟩
end
theorem b3_new (w : World) (a b c : List Nat) : B3 w a b c (((w.alloc (.cells (vec a) 32)).alloc (.cells (vec b) 32)).alloc (.cells (vec c) 32)) := by
  have e1 : (w.alloc (.cells (vec a) 32)).heap.size = w.heap.size + 1 := alloc_size _ _
  have e2 : ((w.alloc (.cells (vec a) 32)).alloc (.cells (vec b) 32)).heap.size = w.heap.size + 1 + 1 := by rw [alloc_size, e1]
  refine ⟨((Bl.new w _ a).alloc _).alloc _, ?_, ?_, (((Below.refl _ _).alloc (Nat.le_refl _) _).alloc (by simp) _).alloc (by simp; omega) _⟩
  · have := (Bl.new (w.alloc (.cells (vec a) 32)) 32 b).alloc (.cells (vec c) 32)
    rw [e1] at this; exact this
  · have := Bl.new ((w.alloc (.cells (vec a) 32)).alloc (.cells (vec b) 32)) 32 c
    rw [e2] at this; exact this
set_option maxRecDepth 100000 in
set_option maxHeartbeats 1000000 in
theorem turn_any (a b : List Nat) (w : World) (ha : a.length = 16) (hb : b.length = 16) (ya : BY a) (yb : BY b) :
    Calls Try.prog 67 #[.agg (vec a), .agg (vec b)] w (Ret w (.agg (vec (xorL a b)))) := by
  have T0 := Lib.hid (b3_new w a b (zs 16))
  obtain ⟨X, hX⟩ : ∃ X, X = vec a := ⟨_, rfl⟩
  obtain ⟨Y, hY⟩ : ∃ Y, Y = vec b := ⟨_, rfl⟩
  obtain ⟨Z, hZ⟩ : ∃ Z, Z = vec (zs 16) := ⟨_, rfl⟩
  rw [← hX, ← hY]
  have hzv := zero16
  rw [← hZ] at hzv
  obtain ⟨W, hW⟩ : ∃ W, W = ((w.alloc (.cells X 32)).alloc (.cells Y 32)).alloc (.cells Z 32) := ⟨_, rfl⟩
  have T1 : Hid (B3 w a b (zs 16) W) := Lib.hid (by rw [hW, hX, hY, hZ]; exact T0.out)
  have HL := Lib.hid (xorL_len a b)
  have L1 := Lib.hid ha
  have L2 := Lib.hid hb
  have U1 := Lib.hid (show (Try.prog.info? 32).map (·.size) = some (vec (xorL a b)).size by rw [b16_info, vec_size, xorL_len])
  clear T0 ha hb hX hY hZ
  go_enter Try.func67, Try.ntmps67
  go_upto_region 1 with fail
  rw [← hW]
  clear hW hzv
  go_wp2_with fail
  go_loopw [6] (fun i wr => ∃ k : Nat, k ≤ 16 ∧ i = .int .i64 k ∧ B3 w (mixP (xorL a b) a k) b (zs 16) wr) (fun i _ => 16 - (intOf i).toNat)
  case atStart => exact ⟨0, by omega, rfl, by rw [mixP_zero]; exact T1.out⟩
  case round =>
    obtain ⟨k, hk, rfl, BB⟩ := hrel
    have hlen : (xorL a b).length = a.length := by rw [HL.out, L1.out]
    have HB := Lib.hid BB
    by_cases hlt : k < 16
    · have hkz : (k : Int) < 16 := by omega
      have c0 := BB.b0.cell (j := k) (by rw [mixP_len hlen, L1.out]; exact hlt)
      rw [mixP_old hlen (Nat.le_refl _)] at c0
      have c1 := BB.b1.cell (j := k) (by rw [L2.out]; exact hlt)
      have f0 := BB.b0.frozen k
      have hst := HB.out.s0 k ((xorL a b).getD k 0)
      rw [mixP_set hlen (by rw [L1.out]; exact hlt)] at hst
      have hxe : (xorL a b).getD k 0 = a.getD k 0 ^^^ b.getD k 0 := getD_map hlt
      have hx := xor_b (ya.at k) (yb.at k)
      rw [hxe, ← hx] at hst
      have HS := Lib.hid hst
      generalize a.getD k 0 = x at *
      generalize b.getD k 0 = y at *
      clear hst hx hxe BB hlen
      go_upto_region 4 with fail
      go_still_tail 8, (by kernel_rfl)
      change wpList _ _ _ _ _ wr.drew
      go_wp2_with fail
      go_roundw
      case rel =>
        refine ⟨k + 1, by omega, by go_num, ?_⟩
        exact HS.out.heap rfl rfl rfl rfl
      case measure => simp [intOf]; omega
    · have e : k = 16 := by omega
      subst e
      have hf : mixP (xorL a b) a 16 = xorL a b := by have := mixP_full hlen; rwa [L1.out] at this
      rw [hf] at BB
      have G1 := Lib.hid BB.b0.row
      have G2 := Lib.hid BB.b2.row
      have BQ := Lib.hid BB.bel
      clear BB HB hlen hf hlt hk
      go_wp2_with (first
        | (refine wpList_load_row rfl 32 (.tmp 2) rfl w.heap.size rfl _ _ _ _ G1.out Try.underlying32 rfl U1.out ?_)
        | (refine wpList_store_row rfl 32 (.tmp 4) (.tmp 18) rfl (w.heap.size + 1 + 1) _ rfl rfl _ _ G2.out U1.out (by rw [vec_size, vec_size, HL.out]; rfl) (vec_one _) ?_))
      refine bodyPost_ret (v := .agg (vec (xorL a b))) (results_cell_row Try.results67 _ _ (w.heap.size + 1 + 1) _ _ _ _ (by rfl) (setRow_heap _ _ _ _ _ _ G2.out) Try.underlying32 rfl U1.out) rfl ⟨rfl, ?_⟩
      exact below_setRow BQ.out (by omega) _
set_option maxRecDepth 100000 in
set_option maxHeartbeats 1000000 in
theorem turned_any (a b : List Nat) (w : World) (ha : a.length = 16) (hb : b.length = 16) (ya : BY a) (yb : BY b) :
    Calls Try.prog 61 #[.agg (vec a), .agg (vec b)] w (Ret w (.agg (vec (xorL a b)))) := by
  have T0 := Lib.hid (b3_new w a b (zs 16))
  obtain ⟨X, hX⟩ : ∃ X, X = vec a := ⟨_, rfl⟩
  obtain ⟨Y, hY⟩ : ∃ Y, Y = vec b := ⟨_, rfl⟩
  obtain ⟨Z, hZ⟩ : ∃ Z, Z = vec (zs 16) := ⟨_, rfl⟩
  rw [← hX, ← hY]
  have hzv := zero16
  rw [← hZ] at hzv
  obtain ⟨W, hW⟩ : ∃ W, W = ((w.alloc (.cells X 32)).alloc (.cells Y 32)).alloc (.cells Z 32) := ⟨_, rfl⟩
  have T1 : Hid (B3 w a b (zs 16) W) := Lib.hid (by rw [hW, hX, hY, hZ]; exact T0.out)
  have HL := Lib.hid (xorL_len a b)
  have L1 := Lib.hid ha
  have L2 := Lib.hid hb
  have U1 := Lib.hid (show (Try.prog.info? 32).map (·.size) = some (vec (xorL a b)).size by rw [b16_info, vec_size, xorL_len])
  clear T0 ha hb hX hY hZ
  go_enter Try.func61, Try.ntmps61
  go_upto_region 1 with fail
  rw [← hW]
  clear hW hzv
  go_wp2_with fail
  go_loopw [5] (fun i wr => ∃ k : Nat, k ≤ 16 ∧ i = .int .i64 k ∧ B3 w (mixP (xorL a b) a k) b (zs 16) wr) (fun i _ => 16 - (intOf i).toNat)
  case atStart => exact ⟨0, by omega, rfl, by rw [mixP_zero]; exact T1.out⟩
  case round =>
    obtain ⟨k, hk, rfl, BB⟩ := hrel
    have hlen : (xorL a b).length = a.length := by rw [HL.out, L1.out]
    have HB := Lib.hid BB
    by_cases hlt : k < 16
    · have hkz : (k : Int) < 16 := by omega
      have c0 := BB.b0.cell (j := k) (by rw [mixP_len hlen, L1.out]; exact hlt)
      rw [mixP_old hlen (Nat.le_refl _)] at c0
      have c1 := BB.b1.cell (j := k) (by rw [L2.out]; exact hlt)
      have f0 := BB.b0.frozen k
      have hst := HB.out.s0 k ((xorL a b).getD k 0)
      rw [mixP_set hlen (by rw [L1.out]; exact hlt)] at hst
      have hxe : (xorL a b).getD k 0 = a.getD k 0 ^^^ b.getD k 0 := getD_map hlt
      have hx := xor_b (ya.at k) (yb.at k)
      rw [hxe, ← hx] at hst
      have HS := Lib.hid hst
      generalize a.getD k 0 = x at *
      generalize b.getD k 0 = y at *
      clear hst hx hxe BB hlen
      go_upto_region 4 with fail
      go_still_tail 8, (by kernel_rfl)
      change wpList _ _ _ _ _ wr.drew
      go_wp2_with fail
      go_roundw
      case rel =>
        refine ⟨k + 1, by omega, by go_num, ?_⟩
        exact HS.out.heap rfl rfl rfl rfl
      case measure => simp [intOf]; omega
    · have e : k = 16 := by omega
      subst e
      have hf : mixP (xorL a b) a 16 = xorL a b := by have := mixP_full hlen; rwa [L1.out] at this
      rw [hf] at BB
      have G1 := Lib.hid BB.b0.row
      have G2 := Lib.hid BB.b2.row
      have BQ := Lib.hid BB.bel
      clear BB HB hlen hf hlt hk
      go_wp2_with (first
        | (refine wpList_load_row rfl 32 (.tmp 2) rfl w.heap.size rfl _ _ _ _ G1.out Try.underlying32 rfl U1.out ?_)
        | (refine wpList_store_row rfl 32 (.tmp 4) (.tmp 18) rfl (w.heap.size + 1 + 1) _ rfl rfl _ _ G2.out U1.out (by rw [vec_size, vec_size, HL.out]; rfl) (vec_one _) ?_))
      refine bodyPost_ret (v := .agg (vec (xorL a b))) (results_cell_row Try.results61 _ _ (w.heap.size + 1 + 1) _ _ _ _ (by rfl) (setRow_heap _ _ _ _ _ _ G2.out) Try.underlying32 rfl U1.out) rfl ⟨rfl, ?_⟩
      exact below_setRow BQ.out (by omega) _
end Go.Proofs.Ythbgjjfhgbkbdaa.aesC

/-
  AES: bytes multiplied.
-/
namespace Go.Proofs.Ythbgjjfhgbkbdaa.aesC
open Go.ChangeShapes Go.WideShapes Go.ChangeAt Go.RowKit
open Go.Proofs.Ythbgjjfhgbkbdaa.memC Go.Proofs.Ythbgjjfhgbkbdaa.genC Go.Proofs.Ythbgjjfhgbkbdaa.aesM
set_option linter.unusedVariables false
def Same (w : World) (v : Value) (e : Ending) (w' : World) : Prop := e = .returned v ∧ w = w'
theorem double_any (c : Nat) (w : World) (h : c < 256) : Calls Try.prog 73 #[.int .u8 (c : Int)] w (Same w (.int .u8 ((dbl c : Nat) : Int))) := by
  have hz : (c : Int) < 256 := by omega
  go_enter Try.func73, Try.ntmps73
  go_wp2_with fail
  go_ret
  refine ⟨ret_int ?_, rfl⟩
  unfold dbl
  rw [show (c : Int) * (2 : Int) % (256 : Int) = (((c <<< 1) % 256 : Nat) : Int) by rw [Nat.shiftLeft_eq]; omega, show (c : Int) / (128 : Int) * (27 : Int) = (((c >>> 7) * 27 : Nat) : Int) by rw [Nat.shiftRight_eq_div_pow]; omega]
  exact xor_b (Nat.mod_lt _ (by decide)) (seven_lt h)
theorem dbl_high {x : Nat} (h : x < 256) (h1 : 128 ≤ x) : bits .xor .u8 ((x : Int) * 2 % 256) 27 = ((dbl x : Nat) : Int) := by
  unfold dbl
  rw [show (x : Int) * (2 : Int) % (256 : Int) = (((x <<< 1) % 256 : Nat) : Int) by rw [Nat.shiftLeft_eq]; omega, show x >>> 7 = 1 by rw [Nat.shiftRight_eq_div_pow]; omega]
  exact xor_b (b := 27) (Nat.mod_lt _ (by decide)) (by decide)
theorem dbl_low {x : Nat} (h1 : x < 128) : (x : Int) * 2 % 256 = ((dbl x : Nat) : Int) := by
  unfold dbl
  rw [show x >>> 7 = 0 by rw [Nat.shiftRight_eq_div_pow]; omega, Nat.zero_mul, Nat.xor_zero, Nat.shiftLeft_eq]
  omega
theorem and_one {q : Nat} (h : q < 256) : bits .and .u8 (q : Int) 1 = ((q % 2 : Nat) : Int) := by
  have := Go.u8_and_nat q 1 h (by decide)
  rw [Nat.and_one_is_mod] at this
  exact this
theorem times_any (a b : Nat) (w : World) (ha : a < 256) (hb : b < 256) : Calls Try.prog 62 #[.int .u8 (a : Int), .int .u8 (b : Int)] w (Same w (.int .u8 ((tms a b : Nat) : Int))) := by
  go_enter Try.func62, Try.ntmps62
  go_wp2_with fail
  go_loopw [0, 5, 6] (fun x n i wr => ∃ k : Nat, k ≤ 8 ∧ i = .int .i64 k ∧ x = .int .u8 ((dblN k a : Nat) : Int) ∧ n = .int .u8 ((tmsN a b k : Nat) : Int) ∧ w = wr) (fun _ _ i _ => 8 - (intOf i).toNat)
  case atStart => exact ⟨0, by omega, rfl, rfl, rfl, rfl⟩
  case round =>
    obtain ⟨k, hk, rfl, rfl, rfl, rfl⟩ := hrel
    have hx := dblN_lt ha k
    have hn := tmsN_lt ha b k
    by_cases hlt : k < 8
    · have hkz : (k : Int) < 8 := by omega
      obtain ⟨q, hq⟩ : ∃ q, q = b >>> k := ⟨_, rfl⟩
      have hqb : q < 256 := by rw [hq]; exact Nat.lt_of_le_of_lt (Nat.shiftRight_le _ _) hb
      have hqz : (b : Int) / 2 ^ k = (q : Int) := by rw [hq, Nat.shiftRight_eq_div_pow]; norm_cast
      have hand := and_one hqb
      obtain ⟨r, hr⟩ : ∃ r, r = q % 2 := ⟨_, rfl⟩
      have hr2 : r = 0 ∨ r = 1 := by omega
      rw [← hr] at hand
      have HD := Lib.hid (show dblN (k + 1) a = dbl (dblN k a) from rfl)
      have HT := Lib.hid (show tmsN a b (k + 1) = tmsN a b k ^^^ r * dblN k a by rw [hr, hq]; rfl)
      obtain ⟨x, hxe⟩ : ∃ x, x = dblN k a := ⟨_, rfl⟩
      obtain ⟨n, hne⟩ : ∃ n, n = tmsN a b k := ⟨_, rfl⟩
      obtain ⟨x2, hx2e⟩ : ∃ x, x = dblN (k + 1) a := ⟨_, rfl⟩
      obtain ⟨n2, hn2e⟩ : ∃ n, n = tmsN a b (k + 1) := ⟨_, rfl⟩
      rw [← hx2e, ← hxe] at HD
      rw [← hn2e, ← hne, ← hxe] at HT
      rw [← hxe] at hx
      rw [← hne] at hn
      rw [← hxe, ← hne]
      have E1 := Lib.hid hx2e
      have E2 := Lib.hid hn2e
      clear hr hq hxe hne hx2e hn2e
      have hd : 128 ≤ x → bits .xor .u8 ((x : Int) * 2 % 256) 27 = ((x2 : Nat) : Int) := fun h => by rw [HD.out]; exact dbl_high hx h
      have hd2 : x < 128 → (x : Int) * 2 % 256 = ((x2 : Nat) : Int) := fun h => by rw [HD.out]; exact dbl_low h
      rcases hr2 with rfl | rfl
      · have e2 : n2 = n := by rw [HT.out, Nat.zero_mul, Nat.xor_zero]
        subst e2
        by_cases hh : 128 ≤ x
        · have hhz : (128 : Int) ≤ (x : Int) := by omega
          have hd := hd hh
          clear hd2 HD HT
          go_wp2_with fail
          go_roundw
          case rel => exact ⟨k + 1, by omega, by go_num, by rw [E1.out], by rw [E2.out], trivial⟩
          case measure => simp [intOf]; omega
        · have hhz : ¬ (128 : Int) ≤ (x : Int) := by omega
          have hl := Lib.hid (hd2 (by omega))
          clear hd2 HD HT hd
          go_wp2_with fail
          go_roundw
          case rel => exact ⟨k + 1, by omega, by go_num, by rw [← E1.out]; exact val_int (by have := hl.out; omega), by rw [E2.out], trivial⟩
          case measure => simp [intOf]; omega
      · have e2 : bits .xor .u8 (n : Int) (x : Int) = (n2 : Int) := by rw [HT.out, Nat.one_mul]; exact xor_b hn hx
        by_cases hh : 128 ≤ x
        · have hhz : (128 : Int) ≤ (x : Int) := by omega
          have hd := hd hh
          clear hd2 HD HT
          go_wp2_with fail
          go_roundw
          case rel => exact ⟨k + 1, by omega, by go_num, by rw [E1.out], by rw [E2.out], trivial⟩
          case measure => simp [intOf]; omega
        · have hhz : ¬ (128 : Int) ≤ (x : Int) := by omega
          have hl := Lib.hid (hd2 (by omega))
          clear hd2 HD HT hd
          go_wp2_with fail
          go_roundw
          case rel => exact ⟨k + 1, by omega, by go_num, by rw [← E1.out]; exact val_int (by have := hl.out; omega), by rw [E2.out], trivial⟩
          case measure => simp [intOf]; omega
    · have e : k = 8 := by omega
      subst e
      go_wp2_with fail
      go_ret
      exact ⟨rfl, rfl⟩
theorem rot_lt {x : Nat} (hx : x < 256) : ∀ i, rot x i < 256
  | 0 => xor_lt hx (by decide)
  | i + 1 => xor_lt (rot_lt hx i) (Nat.or_lt_two_pow (n := 8) (Nat.mod_lt _ (by decide)) (Nat.lt_of_le_of_lt (Nat.shiftRight_le _ _) hx))
theorem or_b {a b : Nat} (ha : a < 256) (hb : b < 256) : bits .or .u8 (a : Int) (b : Int) = ((a ||| b : Nat) : Int) := Go.u8_or_nat a b ha hb
/-- a round of turn, by its number -/
theorem rot_step {c : Nat} (hc : c < 256) (k : Nat) (m d : Nat) (hm : m = (c <<< (k + 1)) % 256) (hd : d = c >>> (8 - (k + 1))) :
    ∃ o : Nat, bits .or .u8 (m : Int) (d : Int) = (o : Int) ∧ bits .xor .u8 ((rot c k : Nat) : Int) (o : Int) = ((rot c (k + 1) : Nat) : Int) := by
  have h1 : m < 256 := by rw [hm]; exact Nat.mod_lt _ (by decide)
  have h2 : d < 256 := by rw [hd]; exact Nat.lt_of_le_of_lt (Nat.shiftRight_le _ _) hc
  refine ⟨m ||| d, or_b h1 h2, ?_⟩
  rw [xor_b (rot_lt hc k) (Nat.or_lt_two_pow (n := 8) h1 h2), hm, hd]
  rfl
def Drew (v : Value) (w : World) (e : Ending) (w' : World) : Prop := e = .returned v ∧ ∃ j, w' = w.drewN j
theorem rturn_any (c : Nat) (w : World) (hc : c < 256) : Calls Try.prog 71 #[.int .u8 (c : Int)] w (Drew (.int .u8 ((rturn c : Nat) : Int)) w) := by
  have h99 : bits .xor .u8 (c : Int) 99 = ((rot c 0 : Nat) : Int) := xor_b (b := 99) hc (by decide)
  obtain ⟨o1, a1, b1⟩ := rot_step hc 0 (c * 2 % 256) (c / 128) (by rw [Nat.shiftLeft_eq]) (by rw [Nat.shiftRight_eq_div_pow])
  obtain ⟨o2, a2, b2⟩ := rot_step hc 1 (c * 4 % 256) (c / 64) (by rw [Nat.shiftLeft_eq]) (by rw [Nat.shiftRight_eq_div_pow])
  obtain ⟨o3, a3, b3⟩ := rot_step hc 2 (c * 8 % 256) (c / 32) (by rw [Nat.shiftLeft_eq]) (by rw [Nat.shiftRight_eq_div_pow])
  obtain ⟨o4, a4, b4⟩ := rot_step hc 3 (c * 16 % 256) (c / 16) (by rw [Nat.shiftLeft_eq]) (by rw [Nat.shiftRight_eq_div_pow])
  have hr : rturn c = rot c 4 := rfl
  have HR := Lib.hid hr
  simp only [Nat.zero_add, Nat.reduceAdd, Int.natCast_emod, Int.natCast_mul, Int.natCast_ediv, Int.cast_ofNat_Int] at a1 a2 a3 a4 b1 b2 b3 b4
  generalize rot c 0 = r0 at *
  generalize rot c 1 = r1 at *
  generalize rot c 2 = r2 at *
  generalize rot c 3 = r3 at *
  generalize rot c 4 = r4 at *
  clear hr
  go_enter Try.func71, Try.ntmps71
  go_wp2_with fail
  go_loopw [3, 4] (fun n i wr => (∃ j, wr = w.drewN j) ∧ ((i = .int .i64 1 ∧ n = .int .u8 (r0 : Int)) ∨ (i = .int .i64 2 ∧ n = .int .u8 (r1 : Int)) ∨ (i = .int .i64 3 ∧ n = .int .u8 (r2 : Int)) ∨ (i = .int .i64 4 ∧ n = .int .u8 (r3 : Int)) ∨ (i = .int .i64 5 ∧ n = .int .u8 (r4 : Int)))) (fun _ i _ => 5 - (intOf i).toNat)
  case atStart => exact ⟨⟨0, rfl⟩, .inl ⟨rfl, rfl⟩⟩
  case round =>
    obtain ⟨⟨j, rfl⟩, ⟨rfl, rfl⟩ | ⟨rfl, rfl⟩ | ⟨rfl, rfl⟩ | ⟨rfl, rfl⟩ | ⟨rfl, rfl⟩⟩ := hrel
    · go_upto_region 5 with fail
      go_quiet (fail)
      go_wp2_with fail
      go_roundw
      case rel => exact ⟨⟨_, rfl⟩, .inr (.inl ⟨rfl, rfl⟩)⟩
      case measure => simp [intOf]
    · go_upto_region 5 with fail
      go_quiet (fail)
      go_wp2_with fail
      go_roundw
      case rel => exact ⟨⟨_, rfl⟩, .inr (.inr (.inl ⟨rfl, rfl⟩))⟩
      case measure => simp [intOf]
    · go_upto_region 5 with fail
      go_quiet (fail)
      go_wp2_with fail
      go_roundw
      case rel => exact ⟨⟨_, rfl⟩, .inr (.inr (.inr (.inl ⟨rfl, rfl⟩)))⟩
      case measure => simp [intOf]
    · go_upto_region 5 with fail
      go_quiet (fail)
      go_wp2_with fail
      go_roundw
      case rel => exact ⟨⟨_, rfl⟩, .inr (.inr (.inr (.inr ⟨rfl, rfl⟩)))⟩
      case measure => simp [intOf]
    · go_wp2_with fail
      go_ret
      exact ⟨by rw [HR.out]; rfl, j, rfl⟩
end Go.Proofs.Ythbgjjfhgbkbdaa.aesC

/-
  AES: the code's box.
-/
namespace Go.Proofs.Ythbgjjfhgbkbdaa.aesC
open Go.ChangeShapes Go.WideShapes Go.ChangeAt Go.RowKit
open Go.Proofs.Ythbgjjfhgbkbdaa.memC Go.Proofs.Ythbgjjfhgbkbdaa.genC Go.Proofs.Ythbgjjfhgbkbdaa.aesM
set_option linter.unusedVariables false
theorem run_idxK {P : Program} (w : World) (t e : TypeId) (n : Nat) (K IK : IntKind) (i : TypeInfo) (cs : Array Value) (k : Nat) (v : Value) (ht : P.underlying t = some (.array n e)) (he : P.underlying e = some (.int K))
    (hi : P.info? e = some i) (hs : i.size = 1) (hk : k < n) (hv : cs[k]? = some v) : (Instr.index t (.agg cs) (.int IK (k : Int))).run P w = .ok v w := by
  have hn : 0 ≤ (k : Int) ∧ (k : Int) < (n : Int) := by omega
  have hagg : (isAgg e).run P w = .ok false w := by
    unfold isAgg
    rw [Sem.run_bind, run_underlying he w]
    rfl
  have hp : (part e cs k).run P w = .ok v w := by
    simp [part, Sem.run_bind, hagg, hv]
  simp [Instr.index, run_underlying ht, asIntOf, hn, sizeOf, typeInfo, hi, hs, hp, Sem.run_bind]
  omega
theorem byte_size : (Try.prog.info? 5).map (·.size) = some 1 := by kernel_rfl
theorem z256 : ((Try.prog.info? 95).bind (·.zero)).map (·.cells.size) = some (tbl.map fun n : Nat => (n : Int)).length := by kernel_rfl
theorem vec_ints (xs : List Nat) : ((xs.map fun n : Nat => (n : Int)).map (Value.int .u8)).toArray = vec xs := vec_of xs
set_option maxRecDepth 100000 in
set_option maxHeartbeats 1000000 in
theorem box_any (c : Nat) (w : World) (hc : c < 256) : Calls Try.prog 74 #[.int .u8 (c : Int)] w (Same w (.int .u8 ((box c : Nat) : Int))) := by
  obtain ⟨i0, hi0, hz0, hz1, hz2⟩ := info_parts byte_inf
  obtain ⟨T, hT⟩ : ∃ T, T = vec tbl := ⟨_, rfl⟩
  have hv : T[c]? = some (.int .u8 ((box c : Nat) : Int)) := by
    rw [hT]; exact vec_at (by rw [show tbl.length = 256 by decide +kernel]; exact hc)
  have HT := Lib.hid ((vec_ints tbl).trans hT.symm)
  have HV := Lib.hid hv
  have hu8 : (Instr.index 95 (.agg T) (.int .u8 (c : Int))).run Try.prog w = .ok (.int .u8 ((box c : Nat) : Int)) w := run_idxK w _ _ 256 .u8 .u8 i0 T c _ Try.underlying95 rfl hi0 hz1 hc hv
  generalize box c = z at *
  clear hT hv hi0 hz0 hz1 hz2
  go_enter Try.func74, Try.ntmps74
  go_wp2_with (first
    | ((refine wpList_buildFlatArr rfl 95 5 256 _ rfl .u8 (tbl.map fun n : Nat => (n : Int)) Try.underlying95 byte_size z256 (by kernel_rfl) ?_); rw [HT.out]))
  go_ret
  exact ⟨rfl, rfl⟩
end Go.Proofs.Ythbgjjfhgbkbdaa.aesC

/-
  AES: the code's shift.
-/
namespace Go.Proofs.Ythbgjjfhgbkbdaa.aesC
open Go.ChangeShapes Go.WideShapes Go.ChangeAt Go.RowKit
open Go.Proofs.Ythbgjjfhgbkbdaa.memC Go.Proofs.Ythbgjjfhgbkbdaa.genC Go.Proofs.Ythbgjjfhgbkbdaa.aesM
set_option linter.unusedVariables false
def shL (b : List Nat) : List Nat := (List.range 16).map fun i => box (b.getD ((i + i % 4 * 4) % 16) 0)
theorem shL_len (b : List Nat) : (shL b).length = 16 := by simp [shL]
theorem shL_by (b : List Nat) : BY (shL b) := BY.map fun i _ => box_lt _
set_option maxRecDepth 100000 in
set_option maxHeartbeats 1000000 in
theorem shift_any (b : List Nat) (w : World) (hb : b.length = 16) (yb : BY b) :
    Calls Try.prog 69 #[.agg (vec b)] w (Ret w (.agg (vec (shL b)))) := by
  have T0 := Lib.hid (b3_new w b (zs 16) (zs 16))
  obtain ⟨X, hX⟩ : ∃ X, X = vec b := ⟨_, rfl⟩
  obtain ⟨Z, hZ⟩ : ∃ Z, Z = vec (zs 16) := ⟨_, rfl⟩
  rw [← hX]
  have hzv := zero16
  rw [← hZ] at hzv
  obtain ⟨W, hW⟩ : ∃ W, W = ((w.alloc (.cells X 32)).alloc (.cells Z 32)).alloc (.cells Z 32) := ⟨_, rfl⟩
  have T1 : Hid (B3 w b (zs 16) (zs 16) W) := Lib.hid (by rw [hW, hX, hZ]; exact T0.out)
  have HL := Lib.hid (shL_len b)
  have L2 := Lib.hid hb
  have U1 := Lib.hid (show (Try.prog.info? 32).map (·.size) = some (vec (shL b)).size by rw [b16_info, vec_size, shL_len])
  clear T0 hb hX hZ
  go_enter Try.func69, Try.ntmps69
  go_upto_region 2 with fail
  rw [← hW]
  clear hW hzv
  go_wp2_with fail
  go_loopw [5] (fun i wr => ∃ k : Nat, k ≤ 16 ∧ i = .int .i64 k ∧ B3 w b (zs 16) (mixP (shL b) (zs 16) k) wr) (fun i _ => 16 - (intOf i).toNat)
  case atStart => exact ⟨0, by omega, rfl, by rw [mixP_zero]; exact T1.out⟩
  case round =>
    obtain ⟨k, hk, rfl, BB⟩ := hrel
    have hlen : (shL b).length = (zs 16).length := by rw [HL.out, zs_len]
    have HB := Lib.hid BB
    by_cases hlt : k < 16
    · have hkz : (k : Int) < 16 := by omega
      obtain ⟨r, hr⟩ : ∃ r, r = k % 4 := ⟨_, rfl⟩
      obtain ⟨m, hm⟩ : ∃ m, m = r * 4 := ⟨_, rfl⟩
      obtain ⟨s, hs⟩ : ∃ s, s = k + m := ⟨_, rfl⟩
      obtain ⟨q, hq⟩ : ∃ q, q = s % 16 := ⟨_, rfl⟩
      have e1 : (k : Int) % 4 = (r : Int) := by omega
      have e2 : (r : Int) * 4 = (m : Int) := by omega
      have e3 : (k : Int) + (m : Int) = (s : Int) := by omega
      have e4 : (s : Int) % 16 = (q : Int) := by omega
      have r4 : (r : Int) < 4 := by omega
      have m16 : (m : Int) ≤ 12 := by omega
      have s28 : (s : Int) < 28 := by omega
      have q16 : (q : Int) < 16 := by omega
      have c0 := BB.b0.cell (j := q) (by rw [L2.out]; omega)
      have c2 := BB.b2.cell (j := k) (by rw [mixP_len hlen, zs_len]; exact hlt)
      have f2 := BB.b2.frozen k
      have hst := HB.out.s2 k ((shL b).getD k 0)
      rw [mixP_set hlen (by rw [zs_len]; exact hlt)] at hst
      have hxe : (shL b).getD k 0 = box (b.getD q 0) := by rw [hq, hs, hm, hr]; exact getD_map hlt
      rw [hxe] at hst
      have hx := yb.at q
      have HS := Lib.hid hst
      generalize b.getD q 0 = x at *
      generalize (mixP (shL b) (zs 16) k).getD k 0 = old at *
      have BX := Lib.hid (fun w => box_any x w hx)
      generalize box x = y at *
      clear hst hxe BB hlen hr hm hs hq
      go_wp2_with (first | (go_at_call 74; (with_reducible refine (BX.out _).mono ?_); rintro e w1 ⟨rfl, rfl⟩))
      go_roundw
      case rel => exact ⟨k + 1, by omega, by go_num, HS.out⟩
      case measure => simp [intOf]; omega
    · have e : k = 16 := by omega
      subst e
      have hf : mixP (shL b) (zs 16) 16 = shL b := mixP_full hlen
      rw [hf] at BB
      have G1 := Lib.hid BB.b2.row
      have G2 := Lib.hid BB.b1.row
      have BQ := Lib.hid BB.bel
      clear BB HB hlen hf hlt hk
      go_wp2_with (first
        | (refine wpList_load_row rfl 32 (.tmp 3) rfl (w.heap.size + 1 + 1) rfl _ _ _ _ G1.out Try.underlying32 rfl U1.out ?_)
        | (refine wpList_store_row rfl 32 (.tmp 2) (.tmp 20) rfl (w.heap.size + 1) _ rfl rfl _ _ G2.out U1.out (by rw [vec_size, vec_size, HL.out]; rfl) (vec_one _) ?_))
      refine bodyPost_ret (v := .agg (vec (shL b))) (results_cell_row Try.results69 _ _ (w.heap.size + 1) _ _ _ _ (by rfl) (setRow_heap _ _ _ _ _ _ G2.out) Try.underlying32 rfl U1.out) rfl ⟨rfl, ?_⟩
      exact below_setRow BQ.out (by omega) _
end Go.Proofs.Ythbgjjfhgbkbdaa.aesC

/-
  A region that draws its order, all of whose operations but the last only make memory; the last one waits for all.
-/
namespace Go.Proofs.Ythbgjjfhgbkbdaa.freeC
open Go.ChangeShapes Go.WideShapes Go.ChangeAt Go.RowKit
open Go.Proofs.Ythbgjjfhgbkbdaa.lastC
set_option linter.unusedVariables false
section
variable {P : Program} {L : List Oper} {Q : Exit → Act → World → Prop}
/-- of each of the first n operations, from number s on -/
def UpFrom (R : Nat → Oper → Prop) : Nat → Nat → List Oper → Prop
  | 0, _, _ => True
  | _ + 1, _, [] => True
  | n + 1, s, o :: r => R s o ∧ UpFrom R n (s + 1) r
theorem up_from {R : Nat → Oper → Prop} : ∀ (n : Nat) (L : List Oper) (s : Nat), UpFrom R n s L → ∀ i o, i < n → L[i]? = some o → R (s + i) o
  | 0, _, _, _, i, o, hi, _ => by omega
  | n + 1, [], _, _, i, o, _, h => by simp at h
  | n + 1, o' :: r, s, h, 0, o, _, ho => by
    obtain rfl : o' = o := by simpa using ho
    exact h.1
  | n + 1, o' :: r, s, h, i + 1, o, hi, ho => by
    have := up_from n r (s + 1) h.2 i o (by omega) (by simpa using ho)
    rw [show s + (i + 1) = s + 1 + i by omega]; exact this
/-- the rule: the first n operations only make memory, V tells what each has given; operation n ends the region -/
theorem wp_region_end {id : Nat} {a : Act} {w : World} (n : Nat) (hm : P.follows .mixedOrders = true) (tab : List (Option Nat)) (hb : backE L = true) (ht : slots tab L = true) (hl : tab.length = a.tmps.size)
    (hn : L.length = n + 1) (hw : (match L[n]? with | some o => waitB n o && o.guard.isNone | none => false) = true)
    (us0 : Nat → Value) (ha : frame tab a us0 = a) (G : World → Prop) (V : Nat → Value → World → Prop) (hG : G w.drew) (hkeep : ∀ i v w w', Below w.heap.size w w' → V i v w → V i v w')
    (hstep : UpFrom (Step P L Q tab a G V) n 0 L)
    (hlast : ∀ us w o, L[n]? = some o → G w → (∀ i, i < n → V i (us i) w) → o.wp P (frame tab a us) w (fun a' w' => ∃ v, a' = (frame tab a us).put o.dst v ∧ Q .normal ((frame tab a us).put o.dst v) w') Q) : (Code.region id L.toArray true).wp P Q a w := by
  refine wp_region_free hm tab hb ht hl us0 ha (fun m us w => (m n = false ∧ G w ∧ ∀ j, m j = true → V j (us j) w) ∨ (m n = true ∧ (∀ j, j < n → m j = true) ∧ Q .normal (frame tab a us) w)) (.inl ⟨rfl, hG, fun j h => by cases h⟩) ?_ ?_
  · intro i o ho m us w' hJ hmi hd
    have hil : i < n + 1 := by rw [← hn]; exact (List.getElem?_eq_some_iff.1 ho).1
    have hput : ∀ us v, (frame tab a us).put o.dst v = frame tab a (upd us i v) := by
      intro us v
      have h1 := List.all_eq_true.1 ht i (List.mem_range.2 (by omega))
      rw [ho] at h1
      exact frame_put us h1 hl v
    rcases hJ with ⟨hmn, hg, hv⟩ | ⟨hmn, hall, _⟩
    · by_cases e : i = n
      · subst e
        rw [ho] at hw
        simp only [Bool.and_eq_true, Option.isNone_iff_eq_none] at hw
        have hall : ∀ j, j < i → m j = true := by
          intro j hj
          obtain ⟨e, he, hb2, e2⟩ := waitB_spec hw.1 hj
          have h3 := Array.all_eq_true'.1 hd e he
          rw [hb2, e2] at h3
          simpa using h3
        rw [if_pos (show Region.wanted o (yielded L.toArray (frame tab a us).tmps) = true by simp [Region.wanted, hw.2])]
        have hs := hlast us w' o ho hg fun j hj => hv j (hall j hj)
        refine Oper.wp_mono (fun a2 w2 h2 => ?_) hs
        obtain ⟨v, ha, h2⟩ := h2
        refine ⟨v, ha, .inr ⟨upd_same _ _ _, fun j hj => by rw [upd_other _ _ (by omega)]; exact hall j hj, ?_⟩⟩
        rw [← hput us v]; exact h2
      · have hs := up_from n L 0 hstep i o (by omega) ho m us w' hg hv hd
        rw [Nat.zero_add] at hs
        have hset : ∀ v w'', Below w'.heap.size w' w'' → V i v w'' → ∀ j, upd m i true j = true → V j (upd us i v j) w'' := by
          intro v w'' hb hvi j hj
          by_cases e : j = i
          · subst e; rw [upd_same]; exact hvi
          · rw [upd_other _ _ e]; rw [upd_other _ _ e] at hj; exact hkeep _ _ _ _ hb (hv j hj)
        have hmn2 : upd m i true n = false := by rw [upd_other _ _ (fun h => e h.symm)]; exact hmn
        split
        · rename_i hw2
          rw [if_pos hw2] at hs
          refine Oper.wp_mono (fun a2 w2 h2 => ?_) hs
          obtain ⟨v, ha, hg2, hb2, hv2⟩ := h2
          exact ⟨v, ha, .inl ⟨hmn2, hg2, hset v w2 hb2 hv2⟩⟩
        · rename_i hw2
          rw [if_neg hw2] at hs
          exact .inl ⟨hmn2, hg, hset undef w' (Below.refl _ _) hs⟩
    · exfalso
      by_cases e : i = n
      · subst e; rw [hmn] at hmi; cases hmi
      · rw [hall i (by omega)] at hmi; cases hmi
  · intro m us w' hm hJ
    rcases hJ with ⟨hmn, _⟩ | ⟨_, _, hq⟩
    · rw [hm n (by omega)] at hmn; cases hmn
    · exact hq
end
end Go.Proofs.Ythbgjjfhgbkbdaa.freeC

/-
  AES: the round key behind one.
-/
namespace Go.Proofs.Ythbgjjfhgbkbdaa.aesC
open Go.ChangeShapes Go.WideShapes Go.ChangeAt Go.RowKit
open Go.Proofs.Ythbgjjfhgbkbdaa.memC Go.Proofs.Ythbgjjfhgbkbdaa.genC Go.Proofs.Ythbgjjfhgbkbdaa.aesM Go.Proofs.Ythbgjjfhgbkbdaa.freeC
set_option linter.unusedVariables false
/-- the turned column ahead, and the key, while it is made -/
def nst (k : List Nat) (y : Nat) : Nat → List Nat × List Nat
  | 0 => ([box (k.getD 13 0) ^^^ y, box (k.getD 14 0), box (k.getD 15 0), box (k.getD 12 0)], k)
  | i + 1 => ((nst k y i).1.set (i % 4) ((nst k y i).1.getD (i % 4) 0 ^^^ (nst k y i).2.getD i 0), (nst k y i).2.set i ((nst k y i).1.getD (i % 4) 0 ^^^ (nst k y i).2.getD i 0))
/-- the round key behind one -/
def nxt (k : List Nat) (y : Nat) : List Nat := (nst k y 16).2
theorem by_set {xs : List Nat} (h : BY xs) (j : Nat) {x : Nat} (hx : x < 256) : BY (xs.set j x) := by
  intro z hz
  rcases List.mem_or_eq_of_mem_set hz with h1 | rfl
  · exact h z h1
  · exact hx
theorem nst_ok {k : List Nat} {y : Nat} (hk : BY k) (hl : k.length = 16) (hy : y < 256) : ∀ i, (nst k y i).1.length = 4 ∧ (nst k y i).2.length = 16 ∧ BY (nst k y i).1 ∧ BY (nst k y i).2
  | 0 => ⟨rfl, hl, by
      intro x hx
      simp only [nst, List.mem_cons, List.not_mem_nil, or_false] at hx
      rcases hx with rfl | rfl | rfl | rfl
      · exact xor_lt (box_lt _) hy
      · exact box_lt _
      · exact box_lt _
      · exact box_lt _, hk⟩
  | i + 1 => by
      obtain ⟨h1, h2, h3, h4⟩ := nst_ok hk hl hy i
      have hx := xor_lt (h3.at (i % 4)) (h4.at i)
      exact ⟨by rw [nst, List.length_set, h1], by rw [nst, List.length_set, h2], by_set h3 _ hx, by_set h4 _ hx⟩
theorem nxt_len {k : List Nat} {y : Nat} (hk : BY k) (hl : k.length = 16) (hy : y < 256) : (nxt k y).length = 16 := (nst_ok hk hl hy 16).2.1
theorem nxt_by {k : List Nat} {y : Nat} (hk : BY k) (hl : k.length = 16) (hy : y < 256) : BY (nxt k y) := (nst_ok hk hl hy 16).2.2.2
/-- the key and the result -/
structure NG (w : World) (k : List Nat) (wr : World) : Prop where
  b0 : Bl 32 wr w.heap.size k
  b1 : Bl 32 wr (w.heap.size + 1) (zs 16)
  bel : Below w.heap.size w wr
theorem NG.lt {w wr : World} {k : List Nat} (h : NG w k wr) : w.heap.size + 1 < wr.heap.size := h.b1.lt
theorem NG.below {w wr w' : World} {k : List Nat} (h : NG w k wr) (b : Below wr.heap.size wr w') : NG w k w' := ⟨h.b0.below b h.b0.lt, h.b1.below b h.b1.lt, h.bel.trans (b.mono h.bel.size)⟩
theorem ng_new (w : World) (k : List Nat) : NG w k ((w.alloc (.cells (vec k) 32)).alloc (.cells (vec (zs 16)) 32)) := by
  refine ⟨(Bl.new w _ k).alloc _, ?_, ((Below.refl _ _).alloc (Nat.le_refl _) _).alloc (by simp) _⟩
  have := Bl.new (w.alloc (.cells (vec k) 32)) 32 (zs 16)
  rw [alloc_size] at this; exact this
/-- and the column -/
structure NR (w : World) (g : Nat) (c k : List Nat) (wr : World) : Prop where
  ng : NG w k wr
  c : Bl 110 wr g c
  lt : w.heap.size + 1 < g
section
variable {w wr w' : World} {g : Nat} {c k : List Nat}
theorem NR.heap (B : NR w g c k wr) (e : w'.heap = wr.heap) (e1 : w'.os = wr.os) (e2 : w'.tape = wr.tape) (e3 : w'.output = wr.output) : NR w g c k w' :=
  ⟨⟨B.ng.b0.heap e, B.ng.b1.heap e, B.ng.bel.trans ⟨e1, e2, e3, by rw [e]; exact Nat.le_refl _, fun k _ => by rw [e]⟩⟩, B.c.heap e, B.lt⟩
theorem NR.sc (B : NR w g c k wr) (j x : Nat) : NR w g (c.set j x) k (wr.setCell ⟨g, j, none⟩ (.int .u8 (x : Int))) := by
  have h := B.lt
  exact ⟨⟨B.ng.b0.other (by show g ≠ w.heap.size; omega) _, B.ng.b1.other (by show g ≠ w.heap.size + 1; omega) _, B.ng.bel.setCell (p := ⟨g, j, none⟩) (by show w.heap.size ≤ g; omega) _⟩, B.c.stored j x, h⟩
theorem NR.sk (B : NR w g c k wr) (j x : Nat) : NR w g c (k.set j x) (wr.setCell ⟨w.heap.size, j, none⟩ (.int .u8 (x : Int))) := by
  have h := B.lt
  exact ⟨⟨B.ng.b0.stored j x, B.ng.b1.other (by show w.heap.size ≠ w.heap.size + 1; omega) _, B.ng.bel.setCell (p := ⟨w.heap.size, j, none⟩) (Nat.le_refl _) _⟩, B.c.other (by show w.heap.size ≠ g; omega) _, h⟩
end
def tabN : List (Option Nat) := [none, none, none, none, none, some 15, none, some 0, some 1, some 2, some 3, some 4, some 5, some 6, some 7, some 8, some 9, some 10, some 11, some 12, some 13, some 14, none, none, none, none, none, none, none, none, none, none, none, none, none, none, none, none, none, none, none, none]
def NV (B x12 x13 x14 x15 y z12 z13 z14 z15 z : Nat) : Nat → Value → World → Prop
  | 0, v, _ => v = .pointer (some ⟨B, 13, none⟩)
  | 1, v, _ => v = .int .u8 (x13 : Int)
  | 2, v, _ => v = .int .u8 (z13 : Int)
  | 3, v, _ => v = .int .u8 (y : Int)
  | 4, v, _ => v = .int .u8 (z : Int)
  | 5, v, _ => v = .pointer (some ⟨B, 14, none⟩)
  | 6, v, _ => v = .int .u8 (x14 : Int)
  | 7, v, _ => v = .int .u8 (z14 : Int)
  | 8, v, _ => v = .pointer (some ⟨B, 15, none⟩)
  | 9, v, _ => v = .int .u8 (x15 : Int)
  | 10, v, _ => v = .int .u8 (z15 : Int)
  | 11, v, _ => v = .pointer (some ⟨B, 12, none⟩)
  | 12, v, _ => v = .int .u8 (x12 : Int)
  | 13, v, _ => v = .int .u8 (z12 : Int)
  | 14, v, _ => v = .agg (vec [z, z14, z15, z12])
  | 15, v, w => ∃ g, v = .pointer (some ⟨g, 0, none⟩) ∧ B + 1 < g ∧ Bl 110 w g (zs 4)
  | _, _, _ => True
theorem NV.keep (B x12 x13 x14 x15 y z12 z13 z14 z15 z : Nat) (i : Nat) (v : Value) (w w' : World) (hb : Below w.heap.size w w') (h : NV B x12 x13 x14 x15 y z12 z13 z14 z15 z i v w) : NV B x12 x13 x14 x15 y z12 z13 z14 z15 z i v w' := by
  unfold NV at h ⊢
  split at h <;> first | exact h | (obtain ⟨g, e, hg, hn⟩ := h; exact ⟨g, e, hg, hn.below hb hn.lt⟩)
set_option maxRecDepth 100000 in
set_option maxHeartbeats 1000000 in
theorem next_any (k : List Nat) (y : Nat) (w : World) (hk : k.length = 16) (yk : BY k) (hy : y < 256) :
    Calls Try.prog 72 #[.agg (vec k), .int .u8 (y : Int)] w (Ret w (.agg (vec (nxt k y)))) := by
  have T0 := Lib.hid (ng_new w k)
  obtain ⟨X, hX⟩ : ∃ X, X = vec k := ⟨_, rfl⟩
  obtain ⟨Z, hZ⟩ : ∃ Z, Z = vec (zs 16) := ⟨_, rfl⟩
  rw [← hX]
  have hzv := zero16
  rw [← hZ] at hzv
  obtain ⟨W, hW⟩ : ∃ W, W = (w.alloc (.cells X 32)).alloc (.cells Z 32) := ⟨_, rfl⟩
  have T1 : Hid (NG w k W) := Lib.hid (by rw [hW, hX, hZ]; exact T0.out)
  have NS := Lib.hid (nst_ok yk hk hy)
  have h0 : nst k y 0 = ([box (k.getD 13 0) ^^^ y, box (k.getD 14 0), box (k.getD 15 0), box (k.getD 12 0)], k) := rfl
  have hcell : ∀ j, j < 16 → ∀ w', NG w k w' → w'.cell? ⟨w.heap.size, j, none⟩ = some (.int .u8 ((k.getD j 0 : Nat) : Int)) := fun j hj w' h => h.b0.cell (by rw [hk]; exact hj)
  have C12 := Lib.hid (hcell 12 (by decide))
  have C13 := Lib.hid (hcell 13 (by decide))
  have C14 := Lib.hid (hcell 14 (by decide))
  have C15 := Lib.hid (hcell 15 (by decide))
  have B12 := Lib.hid (fun w => box_any (k.getD 12 0) w (yk.at 12))
  have B13 := Lib.hid (fun w => box_any (k.getD 13 0) w (yk.at 13))
  have B14 := Lib.hid (fun w => box_any (k.getD 14 0) w (yk.at 14))
  have B15 := Lib.hid (fun w => box_any (k.getD 15 0) w (yk.at 15))
  have HX := Lib.hid (xor_b (box_lt (k.getD 13 0)) hy)
  have U1 := Lib.hid (show (Try.prog.info? 32).map (·.size) = some (vec (nxt k y)).size by rw [b16_info, vec_size, nxt_len yk hk hy])
  have ZL := Lib.hid (show (vec (zs 16)).size = (vec (nxt k y)).size by rw [vec_size, vec_size, nxt_len yk hk hy]; rfl)
  generalize box (k.getD 13 0) ^^^ y = z at *
  generalize box (k.getD 12 0) = z12 at *
  generalize box (k.getD 13 0) = z13 at *
  generalize box (k.getD 14 0) = z14 at *
  generalize box (k.getD 15 0) = z15 at *
  generalize k.getD 12 0 = x12 at *
  generalize k.getD 13 0 = x13 at *
  generalize k.getD 14 0 = x14 at *
  generalize k.getD 15 0 = x15 at *
  have HBu := Lib.hid (fun w => run_build (P := Try.prog) w 110 #[(0, .int .u8 (z : Int)), (1, .int .u8 (z14 : Int)), (2, .int .u8 (z15 : Int)), (3, .int .u8 (z12 : Int))] (vec [z, z14, z15, z12]) (by rfl))
  have H0 := Lib.hid h0
  clear T0 hX hZ h0 hcell
  go_enter Try.func72, Try.ntmps72
  go_upto_region 1 with fail
  rw [← hW]
  clear hW hzv
  refine with_act fun a0 ha0 => ?_
  have hl : tabN.length = a0.tmps.size := by rw [ha0]; rfl
  have k1 : a0.tmps[1]?.getD undef = .int .u8 (y : Int) := by rw [ha0]; rfl
  have k2 : a0.tmps[2]?.getD undef = .pointer (some ⟨w.heap.size, 0, none⟩) := by rw [ha0]; rfl
  refine wp_region_end 16 (by kernel_rfl) tabN (by kernel_rfl) (by kernel_rfl) hl (by kernel_rfl) (by kernel_rfl) (fun _ => undef) (by rw [ha0]; rfl) (NG w k) (NV w.heap.size x12 x13 x14 x15 y z12 z13 z14 z15 z) ?_ (NV.keep _ _ _ _ _ _ _ _ _ _ _) ⟨?_, ?_, ?_, ?_, ?_, ?_, ?_, ?_, ?_, ?_, ?_, ?_, ?_, ?_, ?_, ?_, trivial⟩ ?_
  · exact ⟨T1.out.b0.heap rfl, T1.out.b1.heap rfl, T1.out.bel.drew⟩
  · refine step_plain [] (by kernel_rfl) rfl fun us w' hG hV => ?_
    have o2 := (frame_old2 (us := us) (a := a0) (show (tabN[2]?).join = none from rfl)).trans k2
    generalize frame tabN a0 us = fr at *
    exact val_ok (v := .pointer (some ⟨w.heap.size, 13, none⟩)) (w' := w') (by go_simp) hG (Below.refl _ _) rfl
  · refine step_plain [0] (by kernel_rfl) rfl fun us w' hG hV => ?_
    have e0 : us 0 = .pointer (some ⟨w.heap.size, 13, none⟩) := hV 0 (by simp)
    have v0 := (frame_at2 (us := us) hl (show (tabN[7]?).join = some 0 from rfl)).trans e0
    have c13 := C13.out w' hG
    generalize frame tabN a0 us = fr at *
    exact val_ok (v := .int .u8 (x13 : Int)) (w' := w') (by go_simp) hG (Below.refl _ _) rfl
  · refine step_plain [1] (by kernel_rfl) rfl fun us w' hG hV => ?_
    have e1 : us 1 = .int .u8 (x13 : Int) := hV 1 (by simp)
    have v1 := (frame_at2 (us := us) hl (show (tabN[8]?).join = some 1 from rfl)).trans e1
    generalize frame tabN a0 us = fr at *
    exact call_ok (f := 74) (args := #[.int .u8 (x13 : Int)]) (by go_simp) ((B13.out w').mono fun e w'' h => ⟨_, h.1, h.2 ▸ hG, h.2 ▸ Below.refl _ _, rfl⟩)
  · refine step_plain [] (by kernel_rfl) rfl fun us w' hG hV => ?_
    have o1 := (frame_old2 (us := us) (a := a0) (show (tabN[1]?).join = none from rfl)).trans k1
    generalize frame tabN a0 us = fr at *
    exact val_ok (v := .int .u8 (y : Int)) (w' := w') (by go_simp) hG (Below.refl _ _) rfl
  · refine step_plain [2, 3] (by kernel_rfl) rfl fun us w' hG hV => ?_
    have e2 : us 2 = .int .u8 (z13 : Int) := hV 2 (by simp)
    have v2 := (frame_at2 (us := us) hl (show (tabN[9]?).join = some 2 from rfl)).trans e2
    have e3 : us 3 = .int .u8 (y : Int) := hV 3 (by simp)
    have v3 := (frame_at2 (us := us) hl (show (tabN[10]?).join = some 3 from rfl)).trans e3
    have hx := HX.out
    generalize frame tabN a0 us = fr at *
    exact val_ok (v := .int .u8 (z : Int)) (w' := w') (by go_simp) hG (Below.refl _ _) rfl
  · refine step_plain [] (by kernel_rfl) rfl fun us w' hG hV => ?_
    have o2 := (frame_old2 (us := us) (a := a0) (show (tabN[2]?).join = none from rfl)).trans k2
    generalize frame tabN a0 us = fr at *
    exact val_ok (v := .pointer (some ⟨w.heap.size, 14, none⟩)) (w' := w') (by go_simp) hG (Below.refl _ _) rfl
  · refine step_plain [5] (by kernel_rfl) rfl fun us w' hG hV => ?_
    have e5 : us 5 = .pointer (some ⟨w.heap.size, 14, none⟩) := hV 5 (by simp)
    have v5 := (frame_at2 (us := us) hl (show (tabN[12]?).join = some 5 from rfl)).trans e5
    have c14 := C14.out w' hG
    generalize frame tabN a0 us = fr at *
    exact val_ok (v := .int .u8 (x14 : Int)) (w' := w') (by go_simp) hG (Below.refl _ _) rfl
  · refine step_plain [6] (by kernel_rfl) rfl fun us w' hG hV => ?_
    have e6 : us 6 = .int .u8 (x14 : Int) := hV 6 (by simp)
    have v6 := (frame_at2 (us := us) hl (show (tabN[13]?).join = some 6 from rfl)).trans e6
    generalize frame tabN a0 us = fr at *
    exact call_ok (f := 74) (args := #[.int .u8 (x14 : Int)]) (by go_simp) ((B14.out w').mono fun e w'' h => ⟨_, h.1, h.2 ▸ hG, h.2 ▸ Below.refl _ _, rfl⟩)
  · refine step_plain [] (by kernel_rfl) rfl fun us w' hG hV => ?_
    have o2 := (frame_old2 (us := us) (a := a0) (show (tabN[2]?).join = none from rfl)).trans k2
    generalize frame tabN a0 us = fr at *
    exact val_ok (v := .pointer (some ⟨w.heap.size, 15, none⟩)) (w' := w') (by go_simp) hG (Below.refl _ _) rfl
  · refine step_plain [8] (by kernel_rfl) rfl fun us w' hG hV => ?_
    have e8 : us 8 = .pointer (some ⟨w.heap.size, 15, none⟩) := hV 8 (by simp)
    have v8 := (frame_at2 (us := us) hl (show (tabN[15]?).join = some 8 from rfl)).trans e8
    have c15 := C15.out w' hG
    generalize frame tabN a0 us = fr at *
    exact val_ok (v := .int .u8 (x15 : Int)) (w' := w') (by go_simp) hG (Below.refl _ _) rfl
  · refine step_plain [9] (by kernel_rfl) rfl fun us w' hG hV => ?_
    have e9 : us 9 = .int .u8 (x15 : Int) := hV 9 (by simp)
    have v9 := (frame_at2 (us := us) hl (show (tabN[16]?).join = some 9 from rfl)).trans e9
    generalize frame tabN a0 us = fr at *
    exact call_ok (f := 74) (args := #[.int .u8 (x15 : Int)]) (by go_simp) ((B15.out w').mono fun e w'' h => ⟨_, h.1, h.2 ▸ hG, h.2 ▸ Below.refl _ _, rfl⟩)
  · refine step_plain [] (by kernel_rfl) rfl fun us w' hG hV => ?_
    have o2 := (frame_old2 (us := us) (a := a0) (show (tabN[2]?).join = none from rfl)).trans k2
    generalize frame tabN a0 us = fr at *
    exact val_ok (v := .pointer (some ⟨w.heap.size, 12, none⟩)) (w' := w') (by go_simp) hG (Below.refl _ _) rfl
  · refine step_plain [11] (by kernel_rfl) rfl fun us w' hG hV => ?_
    have e11 : us 11 = .pointer (some ⟨w.heap.size, 12, none⟩) := hV 11 (by simp)
    have v11 := (frame_at2 (us := us) hl (show (tabN[18]?).join = some 11 from rfl)).trans e11
    have c12 := C12.out w' hG
    generalize frame tabN a0 us = fr at *
    exact val_ok (v := .int .u8 (x12 : Int)) (w' := w') (by go_simp) hG (Below.refl _ _) rfl
  · refine step_plain [12] (by kernel_rfl) rfl fun us w' hG hV => ?_
    have e12 : us 12 = .int .u8 (x12 : Int) := hV 12 (by simp)
    have v12 := (frame_at2 (us := us) hl (show (tabN[19]?).join = some 12 from rfl)).trans e12
    generalize frame tabN a0 us = fr at *
    exact call_ok (f := 74) (args := #[.int .u8 (x12 : Int)]) (by go_simp) ((B12.out w').mono fun e w'' h => ⟨_, h.1, h.2 ▸ hG, h.2 ▸ Below.refl _ _, rfl⟩)
  · refine step_plain [4, 7, 10, 13] (by kernel_rfl) rfl fun us w' hG hV => ?_
    have e4 : us 4 = .int .u8 (z : Int) := hV 4 (by simp)
    have v4 := (frame_at2 (us := us) hl (show (tabN[11]?).join = some 4 from rfl)).trans e4
    have e7 : us 7 = .int .u8 (z14 : Int) := hV 7 (by simp)
    have v7 := (frame_at2 (us := us) hl (show (tabN[14]?).join = some 7 from rfl)).trans e7
    have e10 : us 10 = .int .u8 (z15 : Int) := hV 10 (by simp)
    have v10 := (frame_at2 (us := us) hl (show (tabN[17]?).join = some 10 from rfl)).trans e10
    have e13 : us 13 = .int .u8 (z12 : Int) := hV 13 (by simp)
    have v13 := (frame_at2 (us := us) hl (show (tabN[20]?).join = some 13 from rfl)).trans e13
    have hb := HBu.out w'
    generalize frame tabN a0 us = fr at *
    exact val_ok (v := .agg (vec [z, z14, z15, z12])) (w' := w') (by go_simp; rfl) hG (Below.refl _ _) rfl
  · refine step_plain [] (by kernel_rfl) rfl fun us w' hG hV => ?_
    have hz := zero4
    have hb := alloc_below w' (.cells (vec (zs 4)) 110)
    have hn := Bl.new w' 110 (zs 4)
    have hsz := hG.lt
    generalize frame tabN a0 us = fr at *
    generalize vec (zs 4) = Z at *
    exact val_ok (v := .pointer (some ⟨w'.heap.size, 0, none⟩)) (w' := w'.alloc (.cells Z 110)) (by go_simp) (hG.below hb) hb ⟨_, rfl, hsz, hn⟩
  · intro us w' o ho hG hV
    obtain rfl := Option.some.inj ho
    have e14 : us 14 = .agg (vec [z, z14, z15, z12]) := hV 14 (by decide)
    obtain ⟨g, e15, hg, hn⟩ : ∃ g, us 15 = .pointer (some ⟨g, 0, none⟩) ∧ w.heap.size + 1 < g ∧ Bl 110 w' g (zs 4) := hV 15 (by decide)
    have v14 := (frame_at2 (us := us) hl (show (tabN[21]?).join = some 14 from rfl)).trans e14
    have v15 := (frame_at2 (us := us) hl (show (tabN[5]?).join = some 15 from rfl)).trans e15
    refine store_J 110 5 21 rfl g _ v15 v14 _ _ hn.row (by rw [b4_info]; rfl) rfl (vec_one _) ?_
    have R0 : NR w g (nst k y 0).1 (nst k y 0).2 (w'.setRow g (vec [z, z14, z15, z12])) := by
      rw [H0.out]
      exact ⟨⟨hG.b0.row_other (by omega) _, hG.b1.row_other (by omega) _, below_setRow hG.bel (by omega) _⟩, hn.setRow, hg⟩
    generalize w'.setRow g (vec [z, z14, z15, z12]) = w2 at *
    subst ha0
    simp only [Act.put, frame, tabN, fill]
    rw [e15]
    have HR0 := Lib.hid R0
    clear R0 hV v14 v15 e14 e15 hG hn k1 k2 hl C12 C13 C14 C15 B12 B13 B14 B15 HX HBu H0 T1
    have hg1 := Lib.hid hg
    have hne : g ≠ w.heap.size := by omega
    have hne2 : w.heap.size ≠ g := by omega
    clear hg
    go_wp2_with fail
    go_loopw [22] (fun i wr => ∃ n : Nat, n ≤ 16 ∧ i = .int .i64 n ∧ NR w g (nst k y n).1 (nst k y n).2 wr) (fun i _ => 16 - (intOf i).toNat)
    case atStart => exact ⟨0, by omega, rfl, HR0.out⟩
    case round =>
      obtain ⟨n, hn, rfl, BB⟩ := hrel
      obtain ⟨l1, l2, y1, y2⟩ := NS.out n
      have HB := Lib.hid BB
      by_cases hlt : n < 16
      · have hnz : (n : Int) < 16 := by omega
        obtain ⟨r, hr⟩ : ∃ r, r = n % 4 := ⟨_, rfl⟩
        have e1 : (n : Int) % 4 = (r : Int) := by omega
        have r4 : (r : Int) < 4 := by omega
        have cc := BB.c.cell (j := r) (by rw [l1]; omega)
        have fc := BB.c.frozen r
        have ck := BB.ng.b0.cell (j := n) (by rw [l2]; exact hlt)
        have fk := BB.ng.b0.frozen n
        have hx := xor_b (y1.at r) (y2.at n)
        have hs1 : (nst k y (n + 1)).1 = (nst k y n).1.set r ((nst k y n).1.getD r 0 ^^^ (nst k y n).2.getD n 0) := by rw [hr]; rfl
        have hs2 : (nst k y (n + 1)).2 = (nst k y n).2.set n ((nst k y n).1.getD r 0 ^^^ (nst k y n).2.getD n 0) := by rw [hr]; rfl
        have HS := Lib.hid (hs1 ▸ hs2 ▸ ((BB.heap (w' := wr.drew) rfl rfl rfl rfl).sc r ((nst k y n).1.getD r 0 ^^^ (nst k y n).2.getD n 0)).sk n ((nst k y n).1.getD r 0 ^^^ (nst k y n).2.getD n 0) : NR w g (nst k y (n + 1)).1 (nst k y (n + 1)).2 _)
        generalize (nst k y n).1.getD r 0 ^^^ (nst k y n).2.getD n 0 = x at *
        generalize (nst k y n).1.getD r 0 = xa at *
        generalize (nst k y n).2.getD n 0 = xb at *
        clear hs1 hs2 BB l1 l2 y1 y2 hr
        have et : (n : Int).tmod 4 = (r : Int) := by rw [Int.tmod_eq_emod_of_nonneg (by omega)]; exact e1
        have ew : IntKind.i64.wrap (r : Int) = (r : Int) := IntWalk.i64_in _ (by omega)
        have r4n : r < 4 := by omega
        go_upto_region 5 with fail
        go_still_tail 9, (by kernel_rfl)
        change wpList _ _ _ _ _ wr.drew
        go_wp2_with fail
        go_roundw
        case rel => exact ⟨n + 1, by omega, by go_num, HS.out⟩
        case measure => simp [intOf]; omega
      · have e : n = 16 := by omega
        subst e
        have BB : NR w g (nst k y 16).1 (nxt k y) wr := BB
        have G1 := Lib.hid BB.ng.b0.row
        have G2 := Lib.hid BB.ng.b1.row
        have BQ := Lib.hid BB.ng.bel
        clear BB HB hlt hn l1 l2 y1 y2
        go_wp2_with (first
          | (refine wpList_load_row rfl 32 (.tmp 2) rfl w.heap.size rfl _ _ _ _ G1.out Try.underlying32 rfl U1.out ?_)
          | (refine wpList_store_row rfl 32 (.tmp 4) (.tmp 41) rfl (w.heap.size + 1) _ rfl rfl _ _ G2.out U1.out ZL.out (vec_one _) ?_))
        refine bodyPost_ret (v := .agg (vec (nxt k y))) (results_cell_row Try.results72 _ _ (w.heap.size + 1) _ _ _ _ (by rfl) (setRow_heap _ _ _ _ _ _ G2.out) Try.underlying32 rfl U1.out) rfl ⟨rfl, ?_⟩
        exact below_setRow BQ.out (by omega) _
end Go.Proofs.Ythbgjjfhgbkbdaa.aesC

/-
  AES: the code's multiply.
-/
namespace Go.Proofs.Ythbgjjfhgbkbdaa.aesC
open Go.ChangeShapes Go.WideShapes Go.ChangeAt Go.RowKit
open Go.Proofs.Ythbgjjfhgbkbdaa.memC Go.Proofs.Ythbgjjfhgbkbdaa.genC Go.Proofs.Ythbgjjfhgbkbdaa.aesM Go.Proofs.Ythbgjjfhgbkbdaa.freeC
set_option linter.unusedVariables false
theorem NG.heap {w wr w' : World} {k : List Nat} (B : NG w k wr) (e : w'.heap = wr.heap) (e1 : w'.os = wr.os) (e2 : w'.tape = wr.tape) (e3 : w'.output = wr.output) : NG w k w' :=
  ⟨B.b0.heap e, B.b1.heap e, B.bel.trans ⟨e1, e2, e3, by rw [e]; exact Nat.le_refl _, fun k _ => by rw [e]⟩⟩
theorem NG.sk {w wr : World} {k : List Nat} (B : NG w k wr) (j x : Nat) : NG w (k.set j x) (wr.setCell ⟨w.heap.size, j, none⟩ (.int .u8 (x : Int))) :=
  ⟨B.b0.stored j x, B.b1.other (by show w.heap.size ≠ w.heap.size + 1; omega) _, B.bel.setCell (p := ⟨w.heap.size, j, none⟩) (Nat.le_refl _) _⟩
/-- a block, each column of which is multiplied -/
def mixL (x : List Nat) : List Nat := (List.range 16).map fun j => tms (x.getD j 0) 2 ^^^ tms (x.getD (4 * (j / 4) + (j + 1) % 4) 0) 3 ^^^ x.getD (4 * (j / 4) + (j + 2) % 4) 0 ^^^ x.getD (4 * (j / 4) + (j + 3) % 4) 0
theorem mixL_len (x : List Nat) : (mixL x).length = 16 := by simp [mixL]
theorem mixL_by {x : List Nat} (h : BY x) : BY (mixL x) := BY.map fun i _ => xor_lt (xor_lt (xor_lt (tms_lt (h.at _) 2) (tms_lt (h.at _) 3)) (h.at _)) (h.at _)
theorem mixL_at (x : List Nat) {i j : Nat} (h : j < 16) {a b c d : Nat} (ha : a = j) (hb : b = 4 * (j / 4) + (j + 1) % 4) (hc : c = 4 * (j / 4) + (j + 2) % 4) (hd : d = 4 * (j / 4) + (j + 3) % 4) :
    (mixL x).getD j 0 = tms (x.getD a 0) 2 ^^^ tms (x.getD b 0) 3 ^^^ x.getD c 0 ^^^ x.getD d 0 := by
  subst ha hb hc hd; exact getD_map h
theorem mix_code {x y z u : Nat} (hx : x < 256) (hy : y < 256) : dbl (x ^^^ y) ^^^ y ^^^ z ^^^ u = tms x 2 ^^^ tms y 3 ^^^ z ^^^ u := by
  rw [tms2 hx, tms3 hy, dbl_xor hx hy]
  ac_rfl
/-- what a byte of a column comes to -/
theorem chain {x y z u : Nat} (hx : x < 256) (hy : y < 256) (hz : z < 256) (hu : u < 256) : ∃ p d a c v : Nat, bits .xor .u8 (x : Int) (y : Int) = (p : Int) ∧
    Hid (∀ w, Calls Try.prog 73 #[.int .u8 (p : Int)] w (Same w (.int .u8 (d : Int)))) ∧ bits .xor .u8 (d : Int) (y : Int) = (a : Int) ∧ bits .xor .u8 (a : Int) (z : Int) = (c : Int) ∧ bits .xor .u8 (c : Int) (u : Int) = (v : Int) ∧
    Hid (v = tms x 2 ^^^ tms y 3 ^^^ z ^^^ u) := by
  have hp := xor_lt hx hy
  have hd := dbl_lt hp
  have ha := xor_lt hd hy
  have hc := xor_lt ha hz
  exact ⟨x ^^^ y, dbl (x ^^^ y), _, _, _, xor_b hx hy, Lib.hid fun w => double_any _ w hp, xor_b hd hy, xor_b ha hz, xor_b hc hu, Lib.hid (mix_code hx hy)⟩
set_option maxRecDepth 100000 in
set_option maxHeartbeats 1000000 in
theorem multiply_any (b : List Nat) (w : World) (hb : b.length = 16) (yb : BY b) :
    Calls Try.prog 68 #[.agg (vec b)] w (Ret w (.agg (vec (mixL b)))) := by
  have T0 := Lib.hid (ng_new w b)
  obtain ⟨X, hX⟩ : ∃ X, X = vec b := ⟨_, rfl⟩
  obtain ⟨Z, hZ⟩ : ∃ Z, Z = vec (zs 16) := ⟨_, rfl⟩
  rw [← hX]
  have hzv := zero16
  rw [← hZ] at hzv
  obtain ⟨W, hW⟩ : ∃ W, W = (w.alloc (.cells X 32)).alloc (.cells Z 32) := ⟨_, rfl⟩
  have T1 : Hid (NG w b W) := Lib.hid (by rw [hW, hX, hZ]; exact T0.out)
  have HL := Lib.hid (mixL_len b)
  have L2 := Lib.hid hb
  have U1 := Lib.hid (show (Try.prog.info? 32).map (·.size) = some (vec (mixL b)).size by rw [b16_info, vec_size, mixL_len])
  have YB := Lib.hid yb
  clear T0 hb hX hZ yb
  go_enter Try.func68, Try.ntmps68
  go_upto_region 1 with fail
  rw [← hW]
  clear hW hzv
  go_wp2_with fail
  go_loopw [3] (fun i wr => ∃ n k : Nat, k ≤ 4 ∧ Hid (n = 4 * k) ∧ i = .int .i64 n ∧ NG w (mixP (mixL b) b n) wr) (fun i _ => 16 - (intOf i).toNat)
  case atStart => exact ⟨0, 0, by omega, Lib.hid rfl, rfl, by rw [mixP_zero]; exact T1.out⟩
  case round =>
    obtain ⟨n, k, hk, hn, rfl, BB⟩ := hrel
    have hlen : (mixL b).length = b.length := by rw [HL.out, L2.out]
    have hn' := hn.out
    by_cases hlt : k < 4
    · have hnz : (n : Int) < 16 := by omega
      obtain ⟨n1, hn1⟩ : ∃ n1, n1 = n + 1 := ⟨_, rfl⟩
      obtain ⟨n2, hn2⟩ : ∃ n2, n2 = n + 2 := ⟨_, rfl⟩
      obtain ⟨n3, hn3⟩ : ∃ n3, n3 = n + 3 := ⟨_, rfl⟩
      have hll : ∀ j, j < 16 → j < (mixP (mixL b) b n).length := fun j hj => by rw [mixP_len hlen, L2.out]; exact hj
      have c0 := BB.b0.cell (hll n (by omega))
      have c1 := BB.b0.cell (hll n1 (by omega))
      have c2 := BB.b0.cell (hll n2 (by omega))
      have c3 := BB.b0.cell (hll n3 (by omega))
      rw [mixP_old hlen (by omega)] at c0 c1 c2 c3
      have x0 := YB.out.at n
      have x1 := YB.out.at n1
      have x2 := YB.out.at n2
      have x3 := YB.out.at n3
      have m0 := mixL_at b (i := k) (j := n) (a := n) (b := n1) (c := n2) (d := n3) (by omega) rfl (by omega) (by omega) (by omega)
      have m1 := mixL_at b (i := k) (j := n1) (a := n1) (b := n2) (c := n3) (d := n) (by omega) rfl (by omega) (by omega) (by omega)
      have m2 := mixL_at b (i := k) (j := n2) (a := n2) (b := n3) (c := n) (d := n1) (by omega) rfl (by omega) (by omega) (by omega)
      have m3 := mixL_at b (i := k) (j := n3) (a := n3) (b := n) (c := n1) (d := n2) (by omega) rfl (by omega) (by omega) (by omega)
      have hst : ∀ wr, NG w (mixP (mixL b) b n) wr → NG w (mixP (mixL b) b (n + 4)) ((((wr.setCell ⟨w.heap.size, n, none⟩ (.int .u8 (((mixL b).getD n 0 : Nat) : Int))).setCell ⟨w.heap.size, n1, none⟩ (.int .u8 (((mixL b).getD n1 0 : Nat) : Int))).setCell ⟨w.heap.size, n2, none⟩ (.int .u8 (((mixL b).getD n2 0 : Nat) : Int))).setCell ⟨w.heap.size, n3, none⟩ (.int .u8 (((mixL b).getD n3 0 : Nat) : Int))) := fun wr B => by
        have h1 := B.sk n ((mixL b).getD n 0)
        rw [mixP_set hlen (by rw [L2.out]; omega), ← hn1] at h1
        have h2 := h1.sk n1 ((mixL b).getD n1 0)
        rw [mixP_set hlen (by rw [L2.out]; omega), show n1 + 1 = n2 by omega] at h2
        have h3 := h2.sk n2 ((mixL b).getD n2 0)
        rw [mixP_set hlen (by rw [L2.out]; omega), show n2 + 1 = n3 by omega] at h3
        have h4 := h3.sk n3 ((mixL b).getD n3 0)
        rw [mixP_set hlen (by rw [L2.out]; omega), show n3 + 1 = n + 4 by omega] at h4
        exact h4
      have HS := Lib.hid hst
      rw [m0, m1, m2, m3] at HS
      generalize b.getD n 0 = y0 at *
      generalize b.getD n1 0 = y1 at *
      generalize b.getD n2 0 = y2 at *
      generalize b.getD n3 0 = y3 at *
      clear m0 m1 m2 m3 hst hll
      obtain ⟨p0, d0, a0, q0, v0, P0, D0, A0, Q0, R0, V0⟩ := chain x0 x1 x2 x3
      obtain ⟨p1, d1, a1, q1, v1, P1, D1, A1, Q1, R1, V1⟩ := chain x1 x2 x3 x0
      obtain ⟨p2, d2, a2, q2, v2, P2, D2, A2, Q2, R2, V2⟩ := chain x2 x3 x0 x1
      obtain ⟨p3, d3, a3, q3, v3, P3, D3, A3, Q3, R3, V3⟩ := chain x3 x0 x1 x2
      rw [← V0.out, ← V1.out, ← V2.out, ← V3.out] at HS
      have z1 : (n : Int) + 1 = (n1 : Int) := by omega
      have z2 : (n : Int) + 2 = (n2 : Int) := by omega
      have z3 : (n : Int) + 3 = (n3 : Int) := by omega
      have l1 : (n1 : Int) < 16 := by omega
      have l2 : (n2 : Int) < 16 := by omega
      have l3 : (n3 : Int) < 16 := by omega
      have HB := Lib.hid BB
      have hnq : (n : Int) + 4 = ((n + 4 : Nat) : Int) := by omega
      have HNQ := Lib.hid hnq
      have HK := Lib.hid (show n + 4 = 4 * (k + 1) by omega)
      have F := Lib.hid (fun wr (B : NG w (mixP (mixL b) b n) wr) j => B.b0.frozen j)
      clear V0 V1 V2 V3 BB hlen hn hn' hn1 hn2 hn3 hnq
      go_upto_region 4 with fail
      go_quiet (fail)
      have B5 : NG w (mixP (mixL b) b n) (wr.drewN nq) := HB.out.heap rfl rfl rfl rfl
      have c0 : (wr.drewN nq).cell? ⟨w.heap.size, n, none⟩ = some (.int .u8 (y0 : Int)) := c0
      have c1 : (wr.drewN nq).cell? ⟨w.heap.size, n1, none⟩ = some (.int .u8 (y1 : Int)) := c1
      have c2 : (wr.drewN nq).cell? ⟨w.heap.size, n2, none⟩ = some (.int .u8 (y2 : Int)) := c2
      have c3 : (wr.drewN nq).cell? ⟨w.heap.size, n3, none⟩ = some (.int .u8 (y3 : Int)) := c3
      generalize wr.drewN nq = w5 at *
      have f0 := F.out _ B5 n
      have f1 := F.out _ B5 n1
      have f2 := F.out _ B5 n2
      have f3 := F.out _ B5 n3
      have H5 := Lib.hid (HS.out _ B5)
      have g01 : n1 ≠ n := by omega
      have g02 : n2 ≠ n := by omega
      have g03 : n3 ≠ n := by omega
      have g12 : n2 ≠ n1 := by omega
      have g13 : n3 ≠ n1 := by omega
      have g23 : n3 ≠ n2 := by omega
      clear B5 F HS HB
      go_wp2_with (first
        | (go_at_call 73; (with_reducible refine (D0.out _).mono ?_); rintro e w1 ⟨rfl, rfl⟩)
        | (go_at_call 73; (with_reducible refine (D1.out _).mono ?_); rintro e w1 ⟨rfl, rfl⟩)
        | (go_at_call 73; (with_reducible refine (D2.out _).mono ?_); rintro e w1 ⟨rfl, rfl⟩)
        | (go_at_call 73; (with_reducible refine (D3.out _).mono ?_); rintro e w1 ⟨rfl, rfl⟩))
      go_roundw
      case rel => exact ⟨n + 4, k + 1, by omega, HK, by rw [← HNQ.out], H5.out⟩
      case measure => simp [intOf]; omega
    · have e : n = 16 := by omega
      subst e
      have hf : mixP (mixL b) b 16 = mixL b := by have := mixP_full hlen; rwa [L2.out] at this
      rw [hf] at BB
      have G1 := Lib.hid BB.b0.row
      have G2 := Lib.hid BB.b1.row
      have BQ := Lib.hid BB.bel
      clear BB hlen hf hlt hk hn hn'
      go_wp2_with (first
        | (refine wpList_load_row rfl 32 (.tmp 1) rfl w.heap.size rfl _ _ _ _ G1.out Try.underlying32 rfl U1.out ?_)
        | (refine wpList_store_row rfl 32 (.tmp 2) (.tmp 78) rfl (w.heap.size + 1) _ rfl rfl _ _ G2.out U1.out (by rw [vec_size, vec_size, HL.out]; rfl) (vec_one _) ?_))
      refine bodyPost_ret (v := .agg (vec (mixL b))) (results_cell_row Try.results68 _ _ (w.heap.size + 1) _ _ _ _ (by rfl) (setRow_heap _ _ _ _ _ _ G2.out) Try.underlying32 rfl U1.out) rfl ⟨rfl, ?_⟩
      exact below_setRow BQ.out (by omega) _
end Go.Proofs.Ythbgjjfhgbkbdaa.aesC

/-
  AES: all round keys, over numbers; New.
-/
namespace Go.Proofs.Ythbgjjfhgbkbdaa.aesC
open Go.ChangeShapes Go.WideShapes Go.ChangeAt Go.RowKit
open Go.Proofs.Ythbgjjfhgbkbdaa.memC Go.Proofs.Ythbgjjfhgbkbdaa.genC Go.Proofs.Ythbgjjfhgbkbdaa.aesM Go.Proofs.Ythbgjjfhgbkbdaa.freeC
set_option linter.unusedVariables false
theorem list16 {α : Type} {l : List α} (h : l.length = 16) : ∃ a b c d e f g i j k m n o p q r, l = [a, b, c, d, e, f, g, i, j, k, m, n, o, p, q, r] := by
  match l, h with
  | [a, b, c, d, e, f, g, i, j, k, m, n, o, p, q, r], _ => exact ⟨a, b, c, d, e, f, g, i, j, k, m, n, o, p, q, r, rfl⟩
theorem built_key {xs : List Nat} (h : xs.length = 16) : Try.prog.built 78 [(0, .agg (vec xs))] = some (vec xs) := by
  obtain ⟨a, b, c, d, e, f, g, i, j, k, m, n, o, p, q, r, rfl⟩ := list16 h
  kernel_rfl
/-- what the first byte of a fourth column is turned by -/
def rc : Nat → Nat
  | 0 => 1
  | n + 1 => dbl (rc n)
theorem rc_lt : ∀ n, rc n < 256
  | 0 => by show 1 < 256; decide
  | n + 1 => dbl_lt (rc_lt n)
/-- the round keys -/
def rk (k : List Nat) : Nat → List Nat
  | 0 => k
  | n + 1 => nxt (rk k n) (rc n)
theorem rk_ok {k : List Nat} (hk : BY k) (hl : k.length = 16) : ∀ n, BY (rk k n) ∧ (rk k n).length = 16
  | 0 => ⟨hk, hl⟩
  | n + 1 => by
    obtain ⟨h1, h2⟩ := rk_ok hk hl n
    exact ⟨nxt_by h1 h2 (rc_lt n), nxt_len h1 h2 (rc_lt n)⟩
/-- all of them -/
def FL (k : List Nat) : List Nat := (List.range 176).map fun j => (rk k (j / 16)).getD (j % 16) 0
theorem FL_len (k : List Nat) : (FL k).length = 176 := by simp [FL]
theorem FL_at {k : List Nat} {j : Nat} (h : j < 176) : (FL k).getD j 0 = (rk k (j / 16)).getD (j % 16) 0 := getD_map h
theorem FL_at16 {k : List Nat} {n j : Nat} (h : n < 11) (hj : j < 16) : (FL k).getD (16 * n + j) 0 = (rk k n).getD j 0 := by
  rw [FL_at (by omega), show (16 * n + j) / 16 = n by omega, show (16 * n + j) % 16 = j by omega]
theorem getD_eq {xs : List Nat} {j : Nat} (h : j < xs.length) : xs[j]? = some (xs.getD j 0) := by
  rw [List.getD_eq_getElem?_getD, List.getElem?_eq_getElem h]; rfl
theorem FL_win {k : List Nat} (hk : BY k) (hl : k.length = 16) {n : Nat} (h : n < 11) : ((FL k).drop (16 * n)).take 16 = rk k n := by
  have hr := (rk_ok hk hl n).2
  apply List.ext_getElem?
  intro j
  by_cases hj : j < 16
  · rw [List.getElem?_take, if_pos hj, List.getElem?_drop, getD_eq (by rw [FL_len]; omega), FL_at16 h hj, getD_eq (by rw [hr]; exact hj)]
  · rw [List.getElem?_eq_none (by rw [List.length_take]; omega), List.getElem?_eq_none (by rw [hr]; omega)]
theorem FL_take {k : List Nat} (hk : BY k) (hl : k.length = 16) {n : Nat} (h : n < 11) : (FL k).take (16 * n + 16) = (FL k).take (16 * n) ++ rk k n := by
  rw [List.take_add, FL_win hk hl h]
theorem FL_by {k : List Nat} (hk : BY k) (hl : k.length = 16) : BY (FL k) := BY.map fun i _ => (rk_ok hk hl _).1.at _
theorem FL_first {k : List Nat} (hk : BY k) (hl : k.length = 16) : k ++ zs 160 = mixP (FL k) (zs 176) 16 := by
  unfold mixP
  have := FL_take hk hl (n := 0) (by omega)
  simp only [Nat.mul_zero, Nat.zero_add, List.take_zero, List.nil_append] at this
  rw [this]
  show rk k 0 ++ zs 160 = rk k 0 ++ List.drop 16 (List.replicate 176 0)
  rw [List.drop_replicate]
  rfl
/-- a round key goes in -/
theorem FL_put {k : List Nat} (hk : BY k) (hl : k.length = 16) {n : Nat} (h : n < 11) (ys : List Nat) (hy : ys.length = 176) :
    (mixP (FL k) ys (16 * n)).take (16 * n) ++ rk k n ++ (mixP (FL k) ys (16 * n)).drop (16 * n + 16) = mixP (FL k) ys (16 * n + 16) := by
  have hlt : ((FL k).take (16 * n)).length = 16 * n := by rw [List.length_take, FL_len]; omega
  have e1 : (mixP (FL k) ys (16 * n)).take (16 * n) = (FL k).take (16 * n) := by unfold mixP; rw [List.take_append_of_le_length (by omega), List.take_of_length_le (by omega)]
  have e2 : (mixP (FL k) ys (16 * n)).drop (16 * n + 16) = ys.drop (16 * n + 16) := by
    unfold mixP
    rw [List.drop_append, List.drop_eq_nil_of_le (by omega), List.nil_append, hlt, List.drop_drop]
    congr 1; omega
  rw [e1, e2]
  unfold mixP
  rw [FL_take hk hl h]
theorem built_all {xs : List Nat} (h : xs.length = 16) : Try.prog.built 97 [(0, .agg (vec xs))] = some (vec (xs ++ zs 160)) := by
  obtain ⟨a, b, c, d, e, f, g, i, j, k, m, n, o, p, q, r, rfl⟩ := list16 h
  kernel_rfl
theorem wpList_built {P : Program} {ops : Array Oper} {rest : List Oper} {o : Oper} {a : Act} {w : World} {Q : Exit → Act → World → Prop} (hg : o.guard = none) (t : TypeId) (i : Nat) (x : Operand) (ho : o.op = .build t #[(i, x)])
    (v : Value) (hx : a.eval x = v) (cells : Array Value) (hf : P.built t [(i, v)] = some cells)
    (h : wpList P ops Q rest (a.put o.dst (.agg cells)) w) : wpList P ops Q (o :: rest) a w := by
  refine wpList_plain hg fun _ hK => ?_
  unfold Oper.wp execOp
  have hb : (Instr.build t #[(i, v)]).run P w = .ok (.agg cells) w := run_build w t _ cells hf
  simp [ho, hx, hb, Result.andThen_ok]
  exact hK _ _ h
/-- a piece of a block is loaded -/
theorem wpList_load_piece {P : Program} {ops : Array Oper} {rest : List Oper} {o : Oper} {a : Act} {w : World} {Q : Exit → Act → World → Prop} (hgd : o.guard = none) (ty : TypeId) (x : Operand) (ho : o.op = .load ty x)
    (g q : Nat) (hx : a.eval x = .pointer (some ⟨g, q, none⟩)) (cs : Array Value) (d : TypeDesc) (hc : ∀ j v, cs[j]? = some v → w.cell? ⟨g, q + j, none⟩ = some v)
    (hu : P.underlying ty = some d) (hd : (match d with | .struct _ | .array _ _ => true | _ => false) = true) (hi : (P.info? ty).map (·.size) = some cs.size)
    (h : wpList P ops Q rest (a.put o.dst (.agg cs)) w) : wpList P ops Q (o :: rest) a w :=
  Go.Proofs.Ythbgjjfhgbkbdaa.partC.wpList_load_part hgd ty x ho g q hx cs.toList d (fun j v hv => hc j v (by simpa using hv)) hu hd (by simpa using hi) (by simpa using h)
/-- .. is stored -/
theorem wpList_store_piece {P : Program} {ops : Array Oper} {rest : List Oper} {o : Oper} {a : Act} {w : World} {Q : Exit → Act → World → Prop} (hgd : o.guard = none) (ty : TypeId) (x y : Operand) (ho : o.op = .store ty x y)
    (g q : Nat) (cells : Array Value) (hx : a.eval x = .pointer (some ⟨g, q, none⟩)) (hy : a.eval y = .agg cells)
    (t : TypeId) (old : Array Value) (hg : w.heap[g]? = some (.cells old t (0, 0))) (hi : (P.info? ty).map (·.size) = some cells.size)
    (hold : q + cells.size ≤ old.size) (h1 : cells.all (·.oneCell') = true) (new : Array Value) (hn : (old.toList.take q ++ cells.toList ++ old.toList.drop (q + cells.size)).toArray = new)
    (h : wpList P ops Q rest (a.put o.dst undef) (w.setRow g new)) : wpList P ops Q (o :: rest) a w :=
  Go.Proofs.Ythbgjjfhgbkbdaa.partC.wpList_store_part hgd ty x y ho g q cells hx hy t old hg hi hold h1 (by rw [hn]; exact h)
set_option maxRecDepth 100000 in
theorem new_any (k : List Nat) (w : World) (hk : k.length = 16) : Calls Try.prog 39 #[.agg (vec k)] w (Ret w (.agg (vec k))) := by
  obtain ⟨X, hX⟩ : ∃ X, X = vec k := ⟨_, rfl⟩
  obtain ⟨Z, hZ⟩ : ∃ Z, Z = vec (zs 16) := ⟨_, rfl⟩
  have hzv := zeroK
  rw [← hZ] at hzv
  have hb := Lib.hid (show Try.prog.built 78 [(0, .agg X)] = some X by rw [hX]; exact built_key hk)
  have U1 := Lib.hid (show (Try.prog.info? 32).map (·.size) = some X.size by rw [b16_info, hX, vec_size, hk])
  have U2 := Lib.hid (show (Try.prog.info? 78).map (·.size) = some X.size by rw [key_info, hX, vec_size, hk])
  have ZX := Lib.hid (show Z.size = X.size by rw [hZ, hX, vec_size, vec_size, hk]; rfl)
  have OX := Lib.hid (show X.all (·.oneCell') = true by rw [hX]; exact vec_one _)
  have e1 : (w.alloc (.cells X 32)).heap.size = w.heap.size + 1 := alloc_size _ _
  obtain ⟨W, hW⟩ : ∃ W, W = (w.alloc (.cells X 32)).alloc (.cells Z 78) := ⟨_, rfl⟩
  have R0 := Lib.hid (show W.heap[w.heap.size]? = some (.cells X 32 (0, 0)) by rw [hW, Below.block (alloc_below _ _) _ (by rw [e1]; omega)]; exact heap_alloc_new w _)
  have R1 := Lib.hid (show W.heap[w.heap.size + 1]? = some (.cells Z 78 (0, 0)) by rw [hW, ← e1]; exact heap_alloc_new _ _)
  have BW := Lib.hid (show Below w.heap.size w W by rw [hW]; exact ((Below.refl _ _).alloc (Nat.le_refl _) _).alloc (by simp) _)
  rw [← hX]
  clear hX hZ e1
  go_enter Try.func39, Try.ntmps39
  go_upto_region 1 with fail
  rw [← hW]
  clear hW
  go_wp2_with (first
    | (refine wpList_load_row rfl 32 (.tmp 1) rfl w.heap.size rfl _ _ _ _ R0.out Try.underlying32 rfl U1.out ?_)
    | (refine wpList_built rfl 78 0 (.tmp 3) rfl (.agg X) rfl X hb.out ?_)
    | (refine wpList_store_row rfl 78 (.tmp 2) (.tmp 4) rfl (w.heap.size + 1) _ rfl rfl _ _ R1.out U2.out ZX.out OX.out ?_))
  refine bodyPost_ret (v := .agg X) (results_cell_row Try.results39 _ _ (w.heap.size + 1) _ _ _ _ (by rfl) (setRow_heap _ _ _ _ _ _ R1.out) Try.underlying78 rfl U2.out) rfl ⟨rfl, ?_⟩
  exact below_setRow BW.out (by omega) _
end Go.Proofs.Ythbgjjfhgbkbdaa.aesC

/-
  AES: the code's round keys.
-/
namespace Go.Proofs.Ythbgjjfhgbkbdaa.aesC
open Go.ChangeShapes Go.WideShapes Go.ChangeAt Go.RowKit
open Go.Proofs.Ythbgjjfhgbkbdaa.memC Go.Proofs.Ythbgjjfhgbkbdaa.genC Go.Proofs.Ythbgjjfhgbkbdaa.aesM Go.Proofs.Ythbgjjfhgbkbdaa.freeC
set_option linter.unusedVariables false
/-- the blocks that a call of rounds lays -/
structure KR (w : World) (k f : List Nat) (wr : World) : Prop where
  b0 : Bl 78 wr w.heap.size k
  b1 : Bl 97 wr (w.heap.size + 1) (zs 176)
  b2 : Bl 97 wr (w.heap.size + 1 + 1) f
  bel : Below w.heap.size w wr
section
variable {w wr w' : World} {k f f' : List Nat}
theorem KR.below (B : KR w k f wr) (b : Below wr.heap.size wr w') : KR w k f w' := ⟨B.b0.below b B.b0.lt, B.b1.below b B.b1.lt, B.b2.below b B.b2.lt, B.bel.trans (b.mono B.bel.size)⟩
theorem KR.put (B : KR w k f wr) : KR w k f' (wr.setRow (w.heap.size + 1 + 1) (vec f')) :=
  ⟨B.b0.row_other (by omega) _, B.b1.row_other (by omega) _, B.b2.setRow, below_setRow B.bel (by omega) _⟩
end
theorem piece {xs ys : List Nat} {q : Nat} (h : (xs.drop q).take 16 = ys) {T : TypeId} {w : World} {g : Nat} (B : Bl T w g xs) : ∀ j v, (vec ys)[j]? = some v → w.cell? ⟨g, q + j, none⟩ = some v := by
  intro j v hv
  subst h
  unfold vec at hv
  rw [List.getElem?_toArray, List.getElem?_map, List.getElem?_take] at hv
  by_cases hj : j < 16
  · rw [if_pos hj, List.getElem?_drop] at hv
    rw [cell_of_row w g (q + j) _ T (0, 0) B.row]
    unfold vec
    rw [List.getElem?_toArray, List.getElem?_map]; exact hv
  · rw [if_neg hj] at hv; cases hv
/-- a round key of those that are there -/
theorem FL_part {k : List Nat} (hk : BY k) (hl : k.length = 16) {n m : Nat} (h : n < 11) (hm : 16 * n + 16 ≤ m) (ys : List Nat) (hy : ys.length = 176) : ((mixP (FL k) ys m).drop (n * 16)).take 16 = rk k n := by
  rw [← FL_win hk hl h, Nat.mul_comm n 16]
  apply List.ext_getElem?
  intro j
  rw [List.getElem?_take, List.getElem?_take]
  by_cases hj : j < 16
  · rw [if_pos hj, if_pos hj, List.getElem?_drop, List.getElem?_drop]
    have hlen : (FL k).length = ys.length := by rw [FL_len, hy]
    rw [getD_eq (by rw [mixP_len hlen, hy]; omega), getD_eq (by rw [FL_len]; omega), mixP_new hlen (by omega)]
  · rw [if_neg hj, if_neg hj]
theorem vec_parts (a b c : List Nat) : ((vec a).toList ++ (vec b).toList ++ (vec c).toList).toArray = vec (a ++ b ++ c) := by unfold vec; simp
theorem vec_take (a : List Nat) (n : Nat) : (vec a).toList.take n = (vec (a.take n)).toList := by unfold vec; simp [List.map_take]
theorem vec_drop (a : List Nat) (n : Nat) : (vec a).toList.drop n = (vec (a.drop n)).toList := by unfold vec; simp [List.map_drop]
theorem FL_set {k : List Nat} (hk : BY k) (hl : k.length = 16) {n : Nat} (h : n < 11) (ys : List Nat) (hy : ys.length = 176) :
    ((vec (mixP (FL k) ys (16 * n))).toList.take (n * 16) ++ (vec (rk k n)).toList ++ (vec (mixP (FL k) ys (16 * n))).toList.drop (n * 16 + (vec (rk k n)).size)).toArray = vec (mixP (FL k) ys (16 * n + 16)) := by
  rw [vec_size, (rk_ok hk hl n).2, vec_take, vec_drop, vec_parts, Nat.mul_comm n 16, FL_put hk hl h ys hy]
set_option maxRecDepth 100000 in
set_option maxHeartbeats 1000000 in
theorem rounds_any (k : List Nat) (w : World) (hk : k.length = 16) (yk : BY k) :
    Calls Try.prog 66 #[.agg (vec k)] w (Ret w (.agg (vec (FL k)))) := by
  obtain ⟨X, hX⟩ : ∃ X, X = vec k := ⟨_, rfl⟩
  obtain ⟨Z, hZ⟩ : ∃ Z, Z = vec (zs 176) := ⟨_, rfl⟩
  obtain ⟨F, hF⟩ : ∃ F, F = vec (mixP (FL k) (zs 176) 16) := ⟨_, rfl⟩
  have hzv := zero11
  rw [← hZ] at hzv
  have hb := Lib.hid (show Try.prog.built 97 [(0, .agg X)] = some F by rw [hX, hF, ← FL_first yk hk]; exact built_all hk)
  have lenf : ∀ n, (mixP (FL k) (zs 176) n).length = 176 := fun n => by rw [mixP_len (by rw [FL_len, zs_len]), zs_len]
  have U1 := Lib.hid (show (Try.prog.info? 32).map (·.size) = some X.size by rw [b16_info, hX, vec_size, hk])
  have U2 := Lib.hid (show (Try.prog.info? 97).map (·.size) = some F.size by rw [b176_info, hF, vec_size, lenf])
  have ZF := Lib.hid (show Z.size = F.size by rw [hZ, hF, vec_size, vec_size, lenf, zs_len])
  have OF := Lib.hid (show F.all (·.oneCell') = true by rw [hF]; exact vec_one _)
  have e1 : (w.alloc (.cells X 78)).heap.size = w.heap.size + 1 := alloc_size _ _
  obtain ⟨W, hW⟩ : ∃ W, W = (w.alloc (.cells X 78)).alloc (.cells Z 97) := ⟨_, rfl⟩
  have eW : W.heap.size = w.heap.size + 1 + 1 := by rw [hW, alloc_size, e1]
  have EW := Lib.hid eW
  have R0 := Lib.hid (show W.heap[w.heap.size]? = some (.cells X 78 (0, 0)) by rw [hW, Below.block (alloc_below _ _) _ (by rw [e1]; omega)]; exact heap_alloc_new w _)
  have R1 : Bl 97 W (w.heap.size + 1) (zs 176) := ⟨by rw [hW, ← e1, hZ]; exact heap_alloc_new _ _⟩
  have BW : Below w.heap.size w W := by rw [hW]; exact ((Below.refl _ _).alloc (Nat.le_refl _) _).alloc (by simp) _
  have K0 : Hid (KR w k (mixP (FL k) (zs 176) 16) (W.alloc (.cells F 97))) := by
    refine Lib.hid ⟨?_, R1.alloc _, ?_, BW.alloc BW.size _⟩
    · have : Bl 78 W w.heap.size k := ⟨by rw [R0.out, hX]⟩
      exact this.alloc _
    · have := Bl.new W 97 (mixP (FL k) (zs 176) 16)
      rw [← hF, eW] at this; exact this
  have HK := Lib.hid hk
  have YK := Lib.hid yk
  have U3 := Lib.hid (show (Try.prog.info? 97).map (·.size) = some (vec (FL k)).size by rw [b176_info, vec_size, FL_len])
  rw [← hX]
  clear hX hZ hF e1 eW R1 BW hk yk lenf
  go_enter Try.func66, Try.ntmps66
  go_upto_region 1 with fail
  rw [← hW]
  clear hW
  go_upto_region 2 with (first
    | (refine wpList_load_row rfl 32 (.tmp 6) rfl w.heap.size rfl _ _ _ _ R0.out Try.underlying78 rfl U1.out ?_)
    | (refine wpList_load_row rfl 32 (.tmp 6) rfl w.heap.size rfl _ _ _ _ R0.out Try.underlying32 rfl U1.out ?_)
    | (refine wpList_built rfl 97 0 (.tmp 7) rfl (.agg X) rfl F hb.out ?_)
    | (refine wpList_store_row rfl 97 (.tmp 3) (.tmp 8) rfl W.heap.size _ rfl rfl _ _ (heap_alloc_new _ _) U2.out ZF.out OF.out ?_))
  rw [World.setRow_alloc_new]
  rw [EW.out]
  clear hzv R0
  have K0' := K0.out
  generalize W.alloc (.cells F 97) = W2 at *
  have K2 := Lib.hid K0'
  clear K0 K0' hb U2 ZF OF EW
  go_wp2_with fail
  go_loopw [4, 9] (fun y i wr => ∃ n : Nat, n ≤ 10 ∧ i = .int .i64 n ∧ y = .int .u8 ((rc n : Nat) : Int) ∧ KR w k (mixP (FL k) (zs 176) (16 * n + 16)) wr) (fun _ i _ => 10 - (intOf i).toNat)
  case atStart => exact ⟨0, by omega, rfl, rfl, K2.out⟩
  case round =>
    obtain ⟨n, hn, rfl, rfl, BB⟩ := hrel
    have HB := Lib.hid BB
    by_cases hlt : n < 10
    · have hnz : (n : Int) < 10 := by omega
      obtain ⟨y, hy⟩ : ∃ y, y = rc n := ⟨_, rfl⟩
      have hyb : y < 256 := by rw [hy]; exact rc_lt n
      have HY := Lib.hid (show rc (n + 1) = dbl y by rw [hy]; rfl)
      rw [← hy]
      have D := Lib.hid (fun w => double_any y w hyb)
      obtain ⟨h1, h2⟩ := rk_ok YK.out HK.out n
      obtain ⟨h3, h4⟩ := rk_ok YK.out HK.out (n + 1)
      have NX := Lib.hid (fun w => (next_any (rk k n) y w h2 h1 hyb))
      have e2 : nxt (rk k n) y = rk k (n + 1) := by rw [hy]; rfl
      rw [e2] at NX
      generalize dbl y = y2 at *
      obtain ⟨n1, hn1⟩ : ∃ n1, n1 = n + 1 := ⟨_, rfl⟩
      have z1 : (n : Int) + 1 = (n1 : Int) := by omega
      have l1 : (n1 : Int) < 11 := by omega
      have lenf : (mixP (FL k) (zs 176) (16 * n1)).length = 176 := by rw [mixP_len (by rw [FL_len, zs_len]), zs_len]
      have LC := Lib.hid (piece (FL_part YK.out HK.out (n := n) (m := 16 * n + 16) (by omega) (Nat.le_refl _) (zs 176) (zs_len _)) HB.out.b2)
      have SC := Lib.hid (FL_set YK.out HK.out (n := n1) (by omega) (zs 176) (zs_len _))
      rw [show 16 * n + 16 = 16 * n1 by omega] at HB
      rw [← hn1] at NX HY h3 h4
      have UA := Lib.hid (show (Try.prog.info? 32).map (·.size) = some (vec (rk k n)).size by rw [b16_info, vec_size, h2])
      have UB := Lib.hid (show (Try.prog.info? 32).map (·.size) = some (vec (rk k n1)).size by rw [b16_info, vec_size, h4])
      have SZ := Lib.hid (show n1 * 16 + (vec (rk k n1)).size ≤ (vec (mixP (FL k) (zs 176) (16 * n1))).size by rw [vec_size, vec_size, h4, lenf]; omega)
      have OB := Lib.hid (vec_one (rk k n1))
      have HN := Lib.hid hn1
      obtain ⟨A, hA⟩ : ∃ A, A = vec (rk k n) := ⟨_, rfl⟩
      obtain ⟨B, hB⟩ : ∃ B, B = vec (rk k n1) := ⟨_, rfl⟩
      rw [← hA] at NX LC UA
      rw [← hB] at NX SC UB SZ OB
      clear e2 hy hyb BB hn1 hA hB h1 h2 h3 h4 lenf
      go_upto_region 7 with (first
        | (refine wpList_load_piece rfl 32 (.tmp 15) rfl (w.heap.size + 1 + 1) (n * 16) rfl A _ LC.out Try.underlying32 rfl UA.out ?_)
        | (go_at_call 72; (with_reducible refine (NX.out _).mono ?_); rintro e w1 ⟨rfl, B1⟩
           have KB := Lib.hid (HB.out.below B1)
           clear B1)
        | (refine wpList_store_piece rfl 32 (.tmp 19) (.tmp 18) rfl (w.heap.size + 1 + 1) (n1 * 16) B rfl rfl _ _ KB.out.b2.row UB.out SZ.out OB.out _ SC.out ?_))
      have KP := Lib.hid (KB.out.put (f' := mixP (FL k) (zs 176) (16 * n1 + 16)))
      generalize w1.setRow (w.heap.size + 1 + 1) (vec (mixP (FL k) (zs 176) (16 * n1 + 16))) = w2 at *
      clear KB LC SC UA UB SZ OB NX HB
      go_wp2_with (first
        | (go_at_call 73; (with_reducible refine (D.out _).mono ?_); rintro e w3 ⟨rfl, rfl⟩))
      go_roundw
      case rel => exact ⟨n1, by have := HN.out; omega, rfl, by rw [HY.out], KP.out⟩
      case measure => have := HN.out; simp [intOf]; omega
    · have e : n = 10 := by omega
      subst e
      have hf : mixP (FL k) (zs 176) (16 * 10 + 16) = FL k := mixP_full (by rw [FL_len, zs_len])
      rw [hf] at BB
      have G1 := Lib.hid BB.b2.row
      have G2 := Lib.hid BB.b1.row
      have BQ := Lib.hid BB.bel
      have ZL := Lib.hid (show (vec (zs 176)).size = (vec (FL k)).size by rw [vec_size, vec_size, FL_len, zs_len])
      clear BB HB hf hlt hn
      have OR := Lib.hid (vec_one (FL k))
      generalize vec (FL k) = R at *
      go_wp2_with (first
        | (refine wpList_load_row rfl 97 (.tmp 3) rfl (w.heap.size + 1 + 1) rfl _ _ _ _ G1.out Try.underlying97 rfl U3.out ?_)
        | (refine wpList_store_row rfl 97 (.tmp 2) (.tmp 23) rfl (w.heap.size + 1) _ rfl rfl _ _ G2.out U3.out ZL.out OR.out ?_))
      refine bodyPost_ret (v := .agg R) (results_cell_row Try.results66 _ _ (w.heap.size + 1) _ _ _ _ (by rfl) (setRow_heap _ _ _ _ _ _ G2.out) Try.underlying97 rfl U3.out) rfl ⟨rfl, ?_⟩
      exact below_setRow BQ.out (by omega) _
end Go.Proofs.Ythbgjjfhgbkbdaa.aesC
