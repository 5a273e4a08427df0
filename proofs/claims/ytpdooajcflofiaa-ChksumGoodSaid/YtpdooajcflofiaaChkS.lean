/-
  The walk of the third statement: short loads.
-/
import Derived.Test.YtpdooajcflofiaaChkR
import Derived.Deep.CutRange
import Derived.StillTailTactics
namespace Go.Proofs.Ytpdooajcflofiaa.chkC
open Go.ChangeShapes Go.WideShapes Go.ChangeAt Go.RowKit
open Go.Proofs.Ytpdooajcflofiaa.memC Go.Proofs.Ytpdooajcflofiaa.chkM
set_option linter.unusedVariables false
theorem good_sum {S f : Int} (hS : 0 ≤ S) (hf : f = 65535 - fo S) : fo (S + f) = 65535 := by
  subst hf; unfold fo; (repeat' split) <;> omega
theorem pow8 {j : Nat} (hj : j < 8) : (2 : Int) ^ j = 1 ∨ (2 : Int) ^ j = 2 ∨ (2 : Int) ^ j = 4 ∨ (2 : Int) ^ j = 8 ∨ (2 : Int) ^ j = 16 ∨ (2 : Int) ^ j = 32 ∨ (2 : Int) ^ j = 64 ∨ (2 : Int) ^ j = 128 := by
  match j, hj with
  | 0, _ => simp
  | 1, _ => simp
  | 2, _ => simp
  | 3, _ => simp
  | 4, _ => simp
  | 5, _ => simp
  | 6, _ => simp
  | 7, _ => simp
theorem flip_sum {S b d : Int} {i : Nat} (hS : fo S = 65535) (hb : b = 1 ∨ b = 2 ∨ b = 4 ∨ b = 8 ∨ b = 16 ∨ b = 32 ∨ b = 64 ∨ b = 128) (hd : d = b ∨ d = -b) : fo (S + d * wt i) ≠ 65535 := by
  rw [Ne, fo_full]
  rw [fo_full] at hS
  unfold wt
  rcases hb with rfl | rfl | rfl | rfl | rfl | rfl | rfl | rfl <;> rcases hd with rfl | rfl <;> split <;> omega
theorem xor_nat : ∀ j : Fin 8, ∀ y : Fin 256, ((y.val ^^^ (2 ^ j.val)) = y.val + 2 ^ j.val ∨ (y.val ^^^ (2 ^ j.val)) + 2 ^ j.val = y.val) ∧ (y.val ^^^ (2 ^ j.val)) < 256 := by decide +kernel
theorem flip_bit {y : Int} {j : Nat} (y0 : 0 ≤ y) (y1 : y ≤ 255) (hj : j < 8) :
    (bits .xor .u8 y (2 ^ j) - y = 2 ^ j ∨ bits .xor .u8 y (2 ^ j) - y = -(2 ^ j)) ∧ Byte (bits .xor .u8 y (2 ^ j)) := by
  have hp := pow8 hj
  rw [Go.u8_xor _ _ y0 (by omega) (by omega) (by omega)]
  have h := xor_nat ⟨j, hj⟩ ⟨y.toNat, by omega⟩
  simp only at h
  have e : ((2 : Int) ^ j).toNat = 2 ^ j := by rw [← Int.toNat_natCast (2 ^ j)]; congr 1
  have e2 : ((2 ^ j : Nat) : Int) = (2 : Int) ^ j := by simp
  rw [e]
  unfold Byte
  omega
theorem set_zero {xs : List Int} {k : Nat} (h : k + 1 < xs.length) : ((xs.set k 0).set (k + 1) 0).getD k 0 = 0 ∧ ((xs.set k 0).set (k + 1) 0).getD (k + 1) 0 = 0 := by
  have h2 : k < xs.length := by omega
  constructor <;> simp [List.getD_eq_getElem?_getD, h, h2]
/-- the two addresses that came in -/
structure TwoA (l1 l2 : List Value) (s1 s2 : Bool) (b1 b2 : List Int) : Prop where
  one : AddrC l1.toArray s1 b1
  two : AddrC l2.toArray s2 b2
theorem two_cells {l1 l2 : List Value} (w : World) (v2 : Array Value) (hl : l1.length = 17) (wx : World) (B : Below (w.heap.size + 1 + 1) ((w.alloc (.cells (l1 ++ l2).toArray 35)).alloc (.cells v2 36)) wx) :
    (∀ j v, l1[j]? = some v → wx.cell? ⟨w.heap.size, 0 + j, none⟩ = some v) ∧ (∀ j v, l2[j]? = some v → wx.cell? ⟨w.heap.size, 17 + j, none⟩ = some v) := by
  have key : ∀ j, wx.cell? ⟨w.heap.size, j, none⟩ = (l1 ++ l2)[j]? := fun j => by
    rw [B.cell (p := ⟨w.heap.size, j, none⟩) (by show w.heap.size < w.heap.size + 1 + 1; omega)]
    have h2 := alloc_below (w.alloc (.cells (l1 ++ l2).toArray 35)) (.cells v2 36)
    rw [h2.cell (p := ⟨w.heap.size, j, none⟩) (by rw [alloc_size]; exact Nat.lt_succ_self _), cell_alloc_new]
    simp
  refine ⟨fun j v h => ?_, fun j v h => ?_⟩
  · rw [Nat.zero_add, key]
    have hj : j < l1.length := by
      rcases Nat.lt_or_ge j l1.length with h1 | h1
      · exact h1
      · rw [List.getElem?_eq_none h1] at h; cases h
    rw [List.getElem?_append_left hj, h]
  · rw [key, List.getElem?_append_right (by omega), hl, show 17 + j - 17 = j by omega, h]
set_option maxRecDepth 100000 in
set_option maxHeartbeats 2000000 in
theorem good_short (l1 l2 : List Value) (s1 s2 : Bool) (b1 b2 : List Int) (hl1 : l1.length = 17) (hl2 : l2.length = 17) (hA1 : AddrC l1.toArray s1 b1) (hA2 : AddrC l2.toArray s2 b2)
    (A : Option Addr) (n c : Nat) (xs : List Int) (a0 a1 : Int) (w : World) (hn : n ≤ 3000) (hn2 : 2 ≤ n) (hA : Nums .u8 w w.heap.size A n xs) (ya : ∀ x ∈ xs, Byte x)
    (a00 : -9223372036854775808 ≤ a0) (a01 : a0 ≤ 9223372036854775807) (a10 : -9223372036854775808 ≤ a1) (a11 : a1 ≤ 9223372036854775807) :
    Calls Try.prog 5 #[.agg (l1 ++ l2).toArray, .slice A n c, .agg #[.int .i64 a0, .int .i64 a1]] w (AliveRet w) := by
  have LL := Lib.hid (fun w => long_any A n c w (by omega))
  have d1 : decide (3000 < n) = false := by simpa using hn
  obtain ⟨T, N, hN, hT, hP⟩ := pseudo_ex l1.toArray l2.toArray s1 s2 b1 b2 6 n hA1 hA2 (by omega) (by omega) (by omega) (by omega)
  obtain ⟨q, hq⟩ : ∃ q, q = n / 2 := ⟨_, rfl⟩
  have hqz : (n : Int) / 2 = (q : Int) := by omega
  have q1 : 1 ≤ q := by omega
  have q2 : q ≤ 1500 := by omega
  obtain ⟨r, t, hr, r0, r1, ht, t1⟩ := place a0 q (by omega)
  obtain ⟨k, hk⟩ : ∃ k, k = t * 2 := ⟨_, rfl⟩
  have hkz : (t : Int) * 2 = (k : Int) := by omega
  have hk2 : k % 2 = 0 := by omega
  have hkn : k + 1 < n := by omega
  have TC := Lib.hid (two_cells (l2 := l2) w #[.int .i64 a0, .int .i64 a1] hl1)
  have BW : Below w.heap.size w ((w.alloc (.cells (l1 ++ l2).toArray 35)).alloc (.cells #[.int .i64 a0, .int .i64 a1] 36)) := ((Below.refl _ _).alloc (Nat.le_refl _) _).alloc (by simp) _
  have NW := hA.below BW
  have SW : w.heap.size + 1 + 1 = ((w.alloc (.cells (l1 ++ l2).toArray 35)).alloc (.cells #[.int .i64 a0, .int .i64 a1] 36)).heap.size := by simp
  have K1 : ((w.alloc (.cells (l1 ++ l2).toArray 35)).alloc (.cells #[.int .i64 a0, .int .i64 a1] 36)).cell? ⟨w.heap.size + 1, 0, none⟩ = some (.int .i64 a0) := by go_simp
  have K2 : ((w.alloc (.cells (l1 ++ l2).toArray 35)).alloc (.cells #[.int .i64 a0, .int .i64 a1] 36)).cell? ⟨w.heap.size + 1, 1, none⟩ = some (.int .i64 a1) := by go_simp
  have KH1 := Lib.hid K1
  have KH2 := Lib.hid K2
  have SH := Lib.hid SW
  have HPS := Lib.hid hP
  have HK2 := Lib.hid hk2
  have HLX := Lib.hid hA.len
  have Z1 := Lib.hid hl1
  have Z2 := Lib.hid hl2
  obtain ⟨i0, hi0, hz0, hz1, hz2⟩ := info_parts byte_info
  have T1 := Lib.hid hi0; have T2 := Lib.hid hz0; have T3 := Lib.hid hz1; have T4 := Lib.hid hz2
  have U1 := Lib.hid (show (Try.prog.info? 34).map (·.size) = some l1.length by rw [hl1]; exact addr_info)
  have U2 := Lib.hid (show (Try.prog.info? 34).map (·.size) = some l2.length by rw [hl2]; exact addr_info)
  have HYA := Lib.hid ya
  clear hk hk2 hq K1 K2 SW hP hi0 hz0 hz1 hz2 hA ya hl1 hl2 hA1 hA2
  go_enter Try.func5, Try.ntmps5
  go_upto_region 6 with (first
    | (go_at_call 9; (refine (LL.out _).mono ?_; rintro e w' ⟨rfl, rfl⟩))
    | (at_builtin; (refine wpList_appT _ rfl (.const (.slice none 0 0)) (.tmp 19) _ rfl 5 i0 _ 1 Try.underlying24 T1.out T2.out T3.out T4.out rfl (w.heap.size + 1 + 1) _ [] rfl (Own.nil _ _) w.heap.size _ n c xs rfl NW (by simp only [maxLen, List.length_nil]; omega) (by simp only [List.length_nil]; omega) (Nat.le_of_eq SH.out) n (by simp) ?_)
       intro A4 c4 w4 g4 g4' O4 B4
       have O4 : Own .u8 5 w4 (w.heap.size + 1 + 1) (.slice A4 n c4) xs := O4
       obtain ⟨g, rfl, hg0, hg1, hgc, hgf⟩ := O4.row (by omega)
       have gc1 := hgc k (by omega)
       have gc2 := hgc (k + 1) hkn
       have gf1 := hgf k
       have gf2 := hgf (k + 1)
       have at0 : w4.cell? ⟨w.heap.size + 1, 0, none⟩ = some (.int .i64 a0) := (B4.cell (p := ⟨w.heap.size + 1, 0, none⟩) (by show w.heap.size + 1 < w.heap.size + 1 + 1; omega)).trans KH1.out
       clear hgc hgf))
  have O5 := (O4.stored k 0).stored (k + 1) 0
  have B5 := (B4.setCell (p := ⟨g, k, none⟩) hg0 (.int .u8 0)).setCell (p := ⟨g, k + 1, none⟩) hg0 (.int .u8 0)
  clear O4 B4 gc1 gc2 gf1 gf2 at0 hg1 NW
  generalize (w4.setCell ⟨g, k, none⟩ (.int .u8 0)).setCell ⟨g, k + 1, none⟩ (.int .u8 0) = w5 at *
  have S5 : w.heap.size + 1 + 1 ≤ w5.heap.size := by rw [SH.out]; exact B5.size
  have y5 : ∀ x ∈ (xs.set k 0).set (k + 1) 0, Byte x := set_byte (set_byte HYA.out ⟨by omega, by omega⟩) ⟨by omega, by omega⟩
  have S0 : 0 ≤ wsum T + wsum ((xs.set k 0).set (k + 1) 0) := by have := (wsum_bd _ hT).1; have := (wsum_bd _ y5).1; omega
  have fb := fo_bd (wsum T + wsum ((xs.set k 0).set (k + 1) 0))
  obtain ⟨f, hf⟩ : ∃ f, f = 65535 - fo (wsum T + wsum ((xs.set k 0).set (k + 1) 0)) := ⟨_, rfl⟩
  have f0 : 0 ≤ f := by omega
  have f1 : f ≤ 65535 := by omega
  have G1 := Lib.hid (good_sum S0 hf)
  have LD := Lib.hid (load_any l1.toArray l2.toArray 6 (some ⟨g, 0, none⟩) n c4 N T _ f w5 (by simpa using Z1.out) (by simpa using Z2.out) hN hT HPS.out ⟨O5.nums, by show n ≤ 10000; omega, y5⟩ hf.symm)
  have W5 := Lib.hid (set_two (xs := (xs.set k 0).set (k + 1) 0) (b := f) HK2.out (by simp; rw [HLX.out]; exact hkn))
  have e5 : ((xs.set k 0).set (k + 1) 0).getD k 0 = 0 ∧ ((xs.set k 0).set (k + 1) 0).getD (k + 1) 0 = 0 := set_zero (by rw [HLX.out]; exact hkn)
  have L5 : ((xs.set k 0).set (k + 1) 0).length = n := O5.len
  obtain ⟨zs, hzs⟩ : ∃ zs, zs = (xs.set k 0).set (k + 1) 0 := ⟨_, rfl⟩
  rw [← hzs] at O5 y5 S0 G1 W5 e5 L5
  rw [e5.1, e5.2] at W5
  have W6 : Hid (fo (wsum T + wsum ((zs.set k (f / 256)).set (k + 1) (f % 256))) = 65535) := Lib.hid (by rw [W5.out, ← G1.out]; congr 1; omega)
  have Y5 := Lib.hid y5
  clear hf fb hzs e5 L5 y5 S0 W5 G1
  go_upto_region 7 with (first
    | (refine wpList_load_part rfl 34 (.tmp 43) rfl w.heap.size 0 rfl l1 _ (TC.out _ B5).1 Try.underlying34 rfl U1.out ?_)
    | (refine wpList_load_part rfl 34 (.tmp 45) rfl w.heap.size 17 rfl l2 _ (TC.out _ B5).2 Try.underlying34 rfl U2.out ?_)
    | (go_at_call 15; ((with_reducible refine LD.out.mono ?_); rintro e w6 ⟨rfl, B6⟩)))
  have O6 := O5.below B6
  have B7 := B5.trans (B6.mono S5)
  obtain ⟨g', eg, _, hg1, hgc, hgf⟩ := O6.row (by omega)
  cases eg
  have gc1 := hgc k (by omega)
  have gc2 := hgc (k + 1) hkn
  have gf1 := hgf k
  have gf2 := hgf (k + 1)
  clear hgc hgf O5 B5 B6 LD
  go_upto_region 8 with fail
  have O8 := (O6.stored k (f / 256)).stored (k + 1) (f % 256)
  have B8 := (B7.setCell (p := ⟨g, k, none⟩) hg0 (.int .u8 (f / 256))).setCell (p := ⟨g, k + 1, none⟩) hg0 (.int .u8 (f % 256))
  clear O6 B7 gc1 gc2 gf1 gf2 hg1 S5
  generalize (w6.setCell ⟨g, k, none⟩ (.int .u8 (f / 256))).setCell ⟨g, k + 1, none⟩ (.int .u8 (f % 256)) = w7 at *
  have S7 : w.heap.size + 1 + 1 ≤ w7.heap.size := by rw [SH.out]; exact B8.size
  have y7 : ∀ x ∈ (zs.set k (f / 256)).set (k + 1) (f % 256), Byte x := set_byte (set_byte Y5.out ⟨by omega, by omega⟩) ⟨by omega, by omega⟩
  obtain ⟨us, hus⟩ : ∃ us, us = (zs.set k (f / 256)).set (k + 1) (f % 256) := ⟨_, rfl⟩
  rw [← hus] at O8 y7 W6
  have GD : Calls Try.prog 16 #[.agg l1.toArray, .agg l2.toArray, .int .u8 6, .slice (some ⟨g, 0, none⟩) n c4] w7 (fun e w' => e = .returned (.bool true) ∧ Below w7.heap.size w7 w') :=
    (good_any l1.toArray l2.toArray 6 (some ⟨g, 0, none⟩) n c4 N T us 65535 w7 (by simpa using Z1.out) (by simpa using Z2.out) hN hT HPS.out ⟨O8.nums, by show n ≤ 10000; omega, y7⟩ W6.out).mono fun e w' h => ⟨by simpa using h.1, h.2⟩
  have GH := Lib.hid GD
  have Y7 := Lib.hid y7
  clear hus y7 GD Y5
  obtain ⟨m8, hm8⟩ : ∃ m8, m8 = 8 * n := ⟨_, rfl⟩
  have hm8z : (8 : Int) * (n : Int) = (m8 : Int) := by omega
  have hm81 : 1 ≤ m8 := by omega
  have hm82 : m8 ≤ 24000 := by omega
  have HM8 := Lib.hid hm8
  clear hm8
  obtain ⟨r', t', hr', r0', r1', ht', t1'⟩ := place a1 m8 (by omega)
  go_upto_region 10 with (first
    | (refine wpList_load_part rfl 34 (.tmp 61) rfl w.heap.size 0 rfl l1 _ (TC.out _ B8).1 Try.underlying34 rfl U1.out ?_)
    | (refine wpList_load_part rfl 34 (.tmp 63) rfl w.heap.size 17 rfl l2 _ (TC.out _ B8).2 Try.underlying34 rfl U2.out ?_)
    | (go_at_call 16; ((with_reducible refine GH.out.mono ?_); rintro e w8 ⟨rfl, B9⟩)))
  have O9 := O8.below B9
  have B10 := B8.trans (B9.mono S7)
  have at1 : w8.cell? ⟨w.heap.size + 1, 1, none⟩ = some (.int .i64 a1) := (B10.cell (p := ⟨w.heap.size + 1, 1, none⟩) (by show w.heap.size + 1 < w.heap.size + 1 + 1; omega)).trans KH2.out
  clear O8 B8 B9 GH
  go_upto_region 11 with fail
  obtain ⟨i, hi⟩ : ∃ i, i = t' / 8 := ⟨_, rfl⟩
  obtain ⟨j, hj⟩ : ∃ j, j = t' % 8 := ⟨_, rfl⟩
  have hiz : (t' : Int) / 8 = (i : Int) := by omega
  have hjz : (t' : Int) % 8 = (j : Int) := by omega
  have hin : i < n := by have := HM8.out; omega
  have hj8 : j < 8 := by omega
  clear hi hj
  obtain ⟨g', eg, _, hg1, hgc, hgf⟩ := O9.row (by omega)
  cases eg
  have gc1 := hgc i hin
  have gf1 := hgf i
  have hby := getD_byte Y7.out (k := i) (by rw [O9.len]; exact hin)
  obtain ⟨y, hy⟩ : ∃ y, y = us.getD i 0 := ⟨_, rfl⟩
  rw [← hy] at gc1 hby
  obtain ⟨y0, y1⟩ := hby
  have HY := Lib.hid hy
  clear hgc hgf hy hr' ht' hm8z
  have it : (t' : Int).tdiv 8 = (i : Int) := by rw [Int.tdiv_eq_ediv_of_nonneg (by omega)]; exact hiz
  have jt : (t' : Int).tmod 8 = (j : Int) := by rw [Int.tmod_eq_emod_of_nonneg (by omega)]; exact hjz
  have iw : IntKind.i64.wrap (i : Int) = (i : Int) := IntWalk.i64_in _ (by omega)
  have i1 : (i : Int) < (n : Int) := by omega
  clear hiz hjz
  go_still_tail 9, (by kernel_rfl)
  change wpList _ _ _ _ _ w8.drew
  go_upto_region 12 with fail
  have e2j : (2 : Int) ^ j % 256 = 2 ^ j := by have := pow8 hj8; omega
  have FB := flip_bit (y := y) y0 y1 hj8
  rw [e2j]
  obtain ⟨v, hv⟩ : ∃ v, v = bits .xor .u8 y ((2 : Int) ^ j) := ⟨_, rfl⟩
  rw [← hv] at FB ⊢
  have P8 := pow8 hj8
  have FS := flip_sum (i := i) W6.out P8 FB.1
  have O10 := (O9.stored i v).drewN 1
  have B11 := (B10.setCell (p := ⟨g, i, none⟩) hg0 (.int .u8 v)).drew
  have us2 := wsum_set us i v (by rw [O9.len]; exact hin)
  rw [← HY.out] at us2
  have ev : wsum T + wsum us + (v - y) * wt i = wsum T + wsum (us.set i v) := by rw [us2, Int.add_assoc]
  rw [ev] at FS
  have y10 := set_byte (k := i) Y7.out FB.2
  obtain ⟨F, hF⟩ : ∃ F, F = fo (wsum T + wsum (us.set i v)) := ⟨_, rfl⟩
  rw [← hF] at FS
  have O10 : Own .u8 5 (w8.setCell ⟨g, i, none⟩ (.int .u8 v)).drew (w.heap.size + 1 + 1) (.slice (some ⟨g, 0, none⟩) n c4) (us.set i v) := O10
  have dF : decide (F = 65535) = false := by simpa using FS
  have GD := Lib.hid (good_any l1.toArray l2.toArray 6 (some ⟨g, 0, none⟩) n c4 N T (us.set i v) F _ (by simpa using Z1.out) (by simpa using Z2.out) hN hT HPS.out ⟨O10.nums, by show n ≤ 10000; omega, y10⟩ hF.symm)
  rw [dF] at GD
  have BL : Below w.heap.size w (w8.setCell ⟨g, i, none⟩ (.int .u8 v)).drew := BW.trans (B11.mono (by omega))
  clear e2j FB hv P8 FS us2 ev hF dF O9 B10 O10 it jt iw i1 gc1 gf1 at1
  generalize (w8.setCell ⟨g, i, none⟩ (.int .u8 v)).drew = w10 at *
  go_upto_region 13 with (first
    | (refine wpList_load_part rfl 34 (.tmp 92) rfl w.heap.size 0 rfl l1 _ (TC.out _ B11).1 Try.underlying34 rfl U1.out ?_)
    | (refine wpList_load_part rfl 34 (.tmp 94) rfl w.heap.size 17 rfl l2 _ (TC.out _ B11).2 Try.underlying34 rfl U2.out ?_)
    | (go_at_call 16; ((with_reducible refine GD.out.mono ?_); rintro e w11 ⟨rfl, B12⟩))
    | (go_at_call 8; (refine (alive_past (BL.trans (B12.mono BL.size))).mono ?_; rintro e w' ⟨rfl, hb⟩)))
  go_ret
  exact ⟨rfl, hb⟩
end Go.Proofs.Ytpdooajcflofiaa.chkC
