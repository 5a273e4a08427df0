/-
  7 texts of a proof, joined.
-/
import Derived.Test.YtflfkhcbkhdahaaMg10
import Derived.Test.YtflfkhcbkhdahaaMg12
import Derived.Test.YtflfkhcbkhdahaaRows
import Derived.WalkKit
import Derived.ProofKit
import Derived.OpenShut
import Derived.ShutString
import Derived.ChangeOld
import Derived.Below
import Derived.RegionTactic
import Derived.Test.YtflfkhcbkhdahaaMg3
import Derived.Test.YtflfkhcbkhdahaaMg9
import Derived.Test.YtflfkhcbkhdahaaMg4
import Derived.Test.YtflfkhcbkhdahaaMg11

/-
  Lies, by the document: bit by bit.
-/
namespace Go.Proofs.Ytflfkhcbkhdahaa.rtC
open Go.ChangeShapes Go.WideShapes Go.ChangeAt Go.RowKit
open Go.Proofs.Ytflfkhcbkhdahaa.memC Go.Proofs.Ytflfkhcbkhdahaa.genC Go.Proofs.Ytflfkhcbkhdahaa.butC Go.Proofs.Ytflfkhcbkhdahaa.freeC Go.Proofs.Ytflfkhcbkhdahaa.adC
set_option linter.unusedVariables false
/-- a bit of an address -/
def bitL (b : List Int) (i : Nat) : Int := b.getD (i / 8) 0 / (2 ^ (7 - i % 8) : Nat) % 2
theorem bit_all : ∀ k : Nat, k < 8 → ∀ n : Nat, n < 256 → mk1 (n : Int) (k + 1) = mk1 (n : Int) k + ((n : Int) / (2 ^ (7 - k) : Nat) % 2) * (2 ^ (7 - k) : Nat) := by decide +kernel
theorem mk1_next {x : Int} (h : Byte x) {k : Nat} (hk : k < 8) : mk1 x (k + 1) = mk1 x k + (x / (2 ^ (7 - k) : Nat) % 2) * (2 ^ (7 - k) : Nat) := by
  obtain ⟨n, rfl⟩ : ∃ n : Nat, x = n := ⟨x.toNat, by unfold Byte at h; omega⟩
  exact bit_all k hk n (by unfold Byte at h; omega)
theorem mk1_zero {x : Int} (h : Byte x) : mk1 x 0 = 0 := by
  unfold Byte at h
  unfold mk1
  have : ((2 ^ (8 - 0) : Nat) : Int) = 256 := rfl
  rw [this]
  omega
/-- the first bits are the same -/
theorem mk1_bits {x y : Int} (hx : Byte x) (hy : Byte y) : ∀ k : Nat, k ≤ 8 → (mk1 x k = mk1 y k ↔ ∀ j, j < k → x / (2 ^ (7 - j) : Nat) % 2 = y / (2 ^ (7 - j) : Nat) % 2)
  | 0, _ => by rw [mk1_zero hx, mk1_zero hy]; simp
  | k + 1, hk => by
    have ih := mk1_bits hx hy k (by omega)
    have hpos : (0 : Int) < ((2 ^ (7 - k) : Nat) : Int) := by
      have : 0 < 2 ^ (7 - k) := Nat.two_pow_pos _
      omega
    constructor
    · intro h j hj
      have h1 : mk1 x k = mk1 y k := by
        have e1 := mk1_less hx (k := k) (k' := k + 1) hk (by omega)
        have e2 := mk1_less hy (k := k) (k' := k + 1) hk (by omega)
        rw [← e1, ← e2, h]
      rcases Nat.lt_or_ge j k with q | q
      · exact ih.1 h1 j q
      · obtain rfl : j = k := by omega
        rw [mk1_next hx (by omega), mk1_next hy (by omega), h1] at h
        exact Int.eq_of_mul_eq_mul_right (Int.ne_of_gt hpos) (by omega)
    · intro h
      rw [mk1_next hx (by omega), mk1_next hy (by omega), ih.2 fun j hj => h j (by omega), h k (by omega)]
/-- two addresses whose first bits are the same -/
theorem msk_bits {a b : List Int} (ha : a.length = 16) (hb : b.length = 16) (ya : ∀ x ∈ a, Byte x) (yb : ∀ x ∈ b, Byte x) {n : Nat} (hn : n ≤ 128) : mskL a n = mskL b n ↔ ∀ i, i < n → bitL a i = bitL b i := by
  have ga : ∀ j, j < 16 → Byte (a.getD j 0) := fun j hj => ya _ (by rw [List.getD_eq_getElem?_getD, List.getElem?_eq_getElem (by omega)]; exact List.getElem_mem _)
  have gb : ∀ j, j < 16 → Byte (b.getD j 0) := fun j hj => yb _ (by rw [List.getD_eq_getElem?_getD, List.getElem?_eq_getElem (by omega)]; exact List.getElem_mem _)
  constructor
  · intro h i hi
    have hj : i / 8 < 16 := by omega
    have h1 := congrArg (fun l => l.getD (i / 8) 0) h
    simp only [mskL_at _ ha hj, mskL_at _ hb hj] at h1
    have hk : i % 8 < kpN n (i / 8) := by unfold kpN; omega
    exact (mk1_bits (ga _ hj) (gb _ hj) _ (by unfold kpN; omega)).1 h1 (i % 8) hk
  · intro h
    refine ext16 (mskL_len _ ha) (mskL_len _ hb) fun j hj => ?_
    rw [mskL_at _ ha hj, mskL_at _ hb hj]
    refine (mk1_bits (ga _ hj) (gb _ hj) _ (by unfold kpN; omega)).2 fun r hr => ?_
    have hr2 : r < 8 ∧ 8 * j + r < n := by unfold kpN at hr; omega
    have := h (8 * j + r) hr2.2
    unfold bitL at this
    rw [show (8 * j + r) / 8 = j by omega, show (8 * j + r) % 8 = r by omega] at this
    exact this
/-- whether an address lies in a prefix, by its bits -/
theorem lies_bits {s s' : Bool} {a b : List Int} {len : Int} (ha : a.length = 16) (hb : b.length = 16) (ya : ∀ x ∈ a, Byte x) (yb : ∀ x ∈ b, Byte x) :
    liesL s a s' b len = true ↔ s = s' ∧ ¬ len < 0 ∧ ¬ 8 * (adrN s : Int) < len ∧ ∀ i : Nat, (i : Int) < len → bitL a i = bitL b i := by
  unfold liesL maskO outO
  have hN := adrN_le s
  by_cases h : len < 0 ∨ 8 * (adrN s : Int) < len
  · rw [if_pos h]
    constructor
    · intro h2; simp at h2
    · rintro ⟨-, h1, h2, -⟩; omega
  · rw [if_neg h]
    obtain ⟨n, rfl⟩ : ∃ n : Nat, len = n := ⟨len.toNat, by omega⟩
    have hn : n ≤ 128 := by omega
    have key := msk_bits ha hb ya yb hn
    by_cases hs : s = s'
    · subst hs
      rw [if_neg h]
      simp only [Option.isSome_some, Bool.true_and, decide_eq_true_eq, true_and]
      rw [key]
      exact ⟨fun hq => ⟨by omega, by omega, fun i hi => hq i (by omega)⟩, fun hq i hi => hq.2.2 i (by omega)⟩
    · constructor
      · intro h2
        exfalso
        simp only [Option.isSome_some, Bool.true_and, decide_eq_true_eq] at h2
        have h3 := h2.1
        clear h2 key
        have n4 : adrN false = 4 := rfl
        have n16 : adrN true = 16 := rfl
        cases s <;> cases s'
        · exact hs rfl
        · rw [if_neg (by rw [n4] at h; rw [n16]; omega)] at h3
          cases h3
        · by_cases h9 : ((n : Nat) : Int) < 0 ∨ 8 * (adrN false : Int) < ((n : Nat) : Int)
          · rw [if_pos h9] at h3; cases h3
          · rw [if_neg h9] at h3; cases h3
        · exact hs rfl
      · rintro ⟨h1, -⟩; exact absurd h1 hs
theorem bits_one_all : ∀ n : Nat, n < 256 → bits .and .u8 (n : Int) 1 = (n : Int) % 2 := by decide +kernel
theorem bits_one {x : Int} (h : Byte x) (k : Nat) : bits .and .u8 (x / 2 ^ k) 1 = x / (2 ^ k : Nat) % 2 := by
  obtain ⟨n, rfl⟩ : ∃ n : Nat, x = n := ⟨x.toNat, by unfold Byte at h; omega⟩
  have e : (n : Int) / 2 ^ k = ((n / 2 ^ k : Nat) : Int) := by simp
  have e2 : ((n : Nat) : Int) / ((2 ^ k : Nat) : Int) = ((n / 2 ^ k : Nat) : Int) := by simp
  rw [e, e2]
  have hn : n < 256 := by unfold Byte at h; omega
  exact bits_one_all _ (Nat.lt_of_le_of_lt (Nat.div_le_self _ _) hn)
set_option maxRecDepth 100000 in
theorem bit_any (s : Bool) (b : List Int) (i : Nat) (w : World) (hl : b.length = 16) (hy : ∀ x ∈ b, Byte x) (hi : i < 128) : Calls Try.prog 60 #[.agg (adrV s b), .int .i64 i] w (Ret w (.int .u8 (bitL b i))) := by
  obtain ⟨q, hq⟩ : ∃ q, q = i / 8 := ⟨_, rfl⟩
  obtain ⟨r, hr⟩ : ∃ r, r = i % 8 := ⟨_, rfl⟩
  have hq16 : q < 16 := by omega
  have kx : (w.alloc (.cells (adrV s b) 25)).cell? ⟨w.heap.size, 1 + q, none⟩ = some (.int .u8 (b.getD q 0)) := by rw [cell_new]; exact adrV_at (by omega)
  have hx : Byte (b.getD q 0) := hy _ (by rw [List.getD_eq_getElem?_getD, List.getElem?_eq_getElem (by omega)]; exact List.getElem_mem _)
  have HV := Lib.hid (show bitL b i = b.getD q 0 / (2 ^ (7 - r) : Nat) % 2 by rw [hq, hr]; rfl)
  have e1 : ((i : Nat) : Int).tdiv 8 = (q : Int) := by rw [Int.tdiv_eq_ediv_of_nonneg (by omega)]; omega
  have e2 : ((i : Nat) : Int).tmod 8 = (r : Int) := by rw [Int.tmod_eq_emod_of_nonneg (by omega)]; omega
  obtain ⟨k, hk⟩ : ∃ k, k = 7 - r := ⟨_, rfl⟩
  have e3 : (7 : Int) - (r : Int) = (k : Int) := by omega
  rw [← hk] at HV
  have e4 : IntKind.i64.wrap (q : Int) = (q : Int) := IntWalk.i64_in _ (by omega)
  have e5 : IntKind.i64.wrap (r : Int) = (r : Int) := IntWalk.i64_in _ (by omega)
  have e6 : IntKind.i64.wrap (k : Int) = (k : Int) := IntWalk.i64_in _ (by omega)
  have qz : (q : Int) < 16 := by omega
  have HX := Lib.hid hx
  generalize b.getD q 0 = x at *
  have B := Lib.hid (alloc_below w (.cells (adrV s b) 25))
  clear hq hr hk hi hl hy hx
  obtain ⟨W, hW⟩ : ∃ W, W = w.alloc (.cells (adrV s b) 25) := ⟨_, rfl⟩
  rw [← hW] at kx B
  generalize adrV s b = C at *
  generalize bitL b i = V at *
  go_enter Try.func60, Try.ntmps60
  go_upto_region 1 with fail
  rw [← hW]
  clear hW
  go_wp2_with fail
  go_ret
  exact ⟨by rw [HV.out, bits_one HX.out]; rfl, B.out⟩
def rlV (g0 g1 kx : Nat) (CA CB : Array Value) (X Y : Int) (qq : Bool) : Nat → Value → World → Prop
  | 0, v, _ => v = .agg CA
  | 1, v, _ => v = .int .i64 kx
  | 2, v, _ => v = .int .u8 X
  | 3, v, _ => v = .agg CB
  | 4, v, _ => v = .int .i64 kx
  | 5, v, _ => v = .int .u8 Y
  | 6, v, _ => v = .bool qq
  | _, _, _ => True
theorem rlV.keep (g0 g1 kx : Nat) (CA CB : Array Value) (X Y : Int) (qq : Bool) (i : Nat) (v : Value) (w w' : World) (hb : Below w.heap.size w w') (h : rlV g0 g1 kx CA CB X Y qq i v w) : rlV g0 g1 kx CA CB X Y qq i v w' := by
  unfold rlV at h ⊢
  split at h <;> exact h
def rlT : List (Option Nat) := [none, none, none, none, none, none, none, none, none, none, none, none, none, none, none, none, none, none, none, none, none, none, none, none, none, none, none, none, none, some 0, some 1, some 2, some 3, some 4, some 5, some 6]
set_option maxRecDepth 100000 in
set_option maxHeartbeats 4000000 in
theorem rlies_any (s s' : Bool) (a b : List Int) (len : Int) (w : World) (ha : a.length = 16) (hb : b.length = 16) (ya : ∀ x ∈ a, Byte x) (yb : ∀ x ∈ b, Byte x) :
    Calls Try.prog 53 #[.agg (adrV s a), .agg (adrV s' b), .int .i64 len] w (Ret w (.bool (liesL s a s' b len))) := by
  have e1 : (w.alloc (.cells (adrV s a) 25)).heap.size = w.heap.size + 1 := alloc_size _ _
  obtain ⟨W, hW⟩ : ∃ W, W = (w.alloc (.cells (adrV s a) 25)).alloc (.cells (adrV s' b) 25) := ⟨_, rfl⟩
  have R0 := Lib.hid (show W.heap[w.heap.size]? = some (.cells (adrV s a) 25 (0, 0)) by rw [hW, Below.block (alloc_below _ _) _ (by rw [e1]; omega)]; exact heap_alloc_new _ _)
  have R1 := Lib.hid (show W.heap[w.heap.size + 1]? = some (.cells (adrV s' b) 25 (0, 0)) by rw [hW, ← e1]; exact heap_alloc_new _ _)
  have HB := Lib.hid (show Below w.heap.size w W by rw [hW]; exact (alloc_below w _).trans ((alloc_below _ _).mono (by rw [e1]; omega)))
  have IA := Lib.hid (show (Try.prog.info? 25).map (·.size) = some (adrV s a).size by rw [adrV_size ha]; exact addr_info)
  have IB := Lib.hid (show (Try.prog.info? 25).map (·.size) = some (adrV s' b).size by rw [adrV_size hb]; exact addr_info)
  have k0 : W.cell? ⟨w.heap.size, 0, none⟩ = some (.bool s) := by rw [cell_of_row W _ 0 _ _ (0, 0) R0.out]; exact adrV_six _ _
  have k1 : W.cell? ⟨w.heap.size + 1, 0, none⟩ = some (.bool s') := by rw [cell_of_row W _ 0 _ _ (0, 0) R1.out]; exact adrV_six _ _
  have SZ := Lib.hid (fun w' => size_any s a w' ha)
  have BA := Lib.hid (fun w' (i : Nat) (hi : i < 128) => bit_any s a i w' ha ya hi)
  have BB := Lib.hid (fun w' (i : Nat) (hi : i < 128) => bit_any s' b i w' hb yb hi)
  have LB := Lib.hid (lies_bits (s := s) (s' := s') (len := len) ha hb ya yb)
  have hN := adrN_le s
  have w8 : IntKind.i64.wrap (8 * (adrN s : Int)) = 8 * (adrN s : Int) := IntWalk.i64_in _ (by omega)
  have HN := Lib.hid hN
  generalize adrV s a = CA at *
  generalize adrV s' b = CB at *
  generalize liesL s a s' b len = V at *
  generalize adrN s = N at *
  clear ha hb ya yb hN
  by_cases hs : s = s'
  rotate_left
  · have hv := Lib.hid (show V = false from Bool.eq_false_iff.2 fun h => hs (LB.out.1 h).1)
    have q1 : (s == s') = false := by simpa using hs
    have q2 : (s != s') = true := by simpa using hs
    clear hs w8
    go_enter Try.func53, Try.ntmps53
    go_upto_region 1 with fail
    rw [← hW]
    clear hW e1
    go_wp2_with go_skip
    go_ret
    exact ⟨ret_bool hv.out.symm, HB.out⟩
  subst hs
  by_cases h0 : len < 0
  · have hv := Lib.hid (show V = false from Bool.eq_false_iff.2 fun h => (LB.out.1 h).2.1 h0)
    clear w8
    go_enter Try.func53, Try.ntmps53
    go_upto_region 1 with fail
    rw [← hW]
    clear hW e1
    go_wp2_with go_skip
    go_ret
    exact ⟨ret_bool hv.out.symm, HB.out⟩
  by_cases h8 : 8 * (N : Int) < len
  · have hv := Lib.hid (show V = false from Bool.eq_false_iff.2 fun h => (LB.out.1 h).2.2.1 h8)
    go_enter Try.func53, Try.ntmps53
    go_upto_region 1 with fail
    rw [← hW]
    clear hW e1
    go_wp2_with (first
      | go_skip
      | (refine wpList_load_rowG (by rfl) 25 (.tmp 3) rfl w.heap.size rfl _ _ _ _ R0.out Try.underlying25 rfl IA.out ?_)
      | (go_at_call 59; (refine (SZ.out _).mono ?_); rintro e w2 ⟨rfl, B2⟩
         have HB2 := Lib.hid (HB.out.trans (B2.mono HB.out.size))
         clear B2))
    go_ret
    exact ⟨ret_bool hv.out.symm, HB2.out⟩
  obtain ⟨n, rfl⟩ : ∃ n : Nat, len = n := ⟨len.toNat, by omega⟩
  have hn : n ≤ 128 := by have := HN.out; omega
  have HNN := Lib.hid hn
  clear h0 hn
  go_enter Try.func53, Try.ntmps53
  go_upto_region 1 with fail
  rw [← hW]
  clear hW e1
  go_upto_region 4 with (first
    | go_skip
    | (refine wpList_load_rowG (by rfl) 25 (.tmp 3) rfl w.heap.size rfl _ _ _ _ R0.out Try.underlying25 rfl IA.out ?_)
    | (go_at_call 59; (refine (SZ.out _).mono ?_); rintro e w2 ⟨rfl, B2⟩
       have HB2 := Lib.hid (HB.out.trans (B2.mono HB.out.size))
       have R02 := Lib.hid (show w2.heap[w.heap.size]? = some (.cells CA 25 (0, 0)) from (B2.block _ (lt_of_row R0.out)).trans R0.out)
       have R12 := Lib.hid (show w2.heap[w.heap.size + 1]? = some (.cells CB 25 (0, 0)) from (B2.block _ (lt_of_row R1.out)).trans R1.out)
       clear B2))
  have H8 := Lib.hid h8
  clear h8 w8 k0 k1
  go_loopw [7] (fun u wr => ∃ i : Nat, u = .int .i64 i ∧ i ≤ n ∧ (∀ j, j < i → bitL a j = bitL b j) ∧ Below w2.heap.size w2 wr) (fun u _ => n - (intOf u).toNat)
  case atStart => exact ⟨0, rfl, Nat.zero_le _, fun j h => by omega, Below.refl _ _⟩
  case round =>
    obtain ⟨i, rfl, hi, hz, hbw⟩ := hrel
    have HZ := Lib.hid hz
    have HBQ := Lib.hid hbw
    have HBW := Lib.hid (show Below w.heap.size w wr from HB2.out.trans (hbw.mono HB2.out.size))
    by_cases hlt : i < n
    rotate_left
    · have q6 : ¬ (i : Int) < (n : Int) := by omega
      have hv := Lib.hid (show V = true from LB.out.2 ⟨by simp, by omega, H8.out, fun j hj => hz j (by omega)⟩)
      clear hlt hi hz hbw
      go_wp2_with fail
      go_ret
      exact ⟨ret_bool hv.out.symm, HBW.out⟩
    have q6 : (i : Int) < (n : Int) := by omega
    have RA := Lib.hid (show wr.heap[w.heap.size]? = some (.cells CA 25 (0, 0)) from (hbw.block _ (lt_of_row R02.out)).trans R02.out)
    have RB := Lib.hid (show wr.heap[w.heap.size + 1]? = some (.cells CB 25 (0, 0)) from (hbw.block _ (lt_of_row R12.out)).trans R12.out)
    obtain ⟨X, hX⟩ : ∃ X, X = bitL a i := ⟨_, rfl⟩
    obtain ⟨Y, hY⟩ : ∃ Y, Y = bitL b i := ⟨_, rfl⟩
    have BX := Lib.hid (fun w' => BA.out w' i (by have := HNN.out; omega))
    have BY := Lib.hid (fun w' => BB.out w' i (by have := HNN.out; omega))
    rw [← hX] at BX
    rw [← hY] at BY
    have HX := Lib.hid hX
    have HY := Lib.hid hY
    obtain ⟨qq, hqq⟩ : ∃ q, (X != Y) = q := ⟨_, rfl⟩
    have EQ := Lib.hid hqq
    have HI := Lib.hid hlt
    have wi : IntKind.i64.wrap ((i : Int) + 1) = (i : Int) + 1 := IntWalk.i64_in _ (by have := HNN.out; omega)
    obtain ⟨g0, hg0⟩ : ∃ g, g = w.heap.size := ⟨_, rfl⟩
    obtain ⟨g1, hg1⟩ : ∃ g, g = w.heap.size + 1 := ⟨_, rfl⟩
    rw [← hg1] at RB
    rw [← hg0] at RA
    clear hlt hi hz hbw hX hY hqq
    go_upto_region 6 with fail
    try rw [← hg1, ← hg0]
    refine with_act fun a0 ha0 => ?_
    have hl : rlT.length = a0.tmps.size := by rw [ha0]; rfl
    have k3 : a0.tmps[3]?.getD undef = .pointer (some ⟨g0, 0, none⟩) := by rw [ha0]; rfl
    have k4 : a0.tmps[4]?.getD undef = .pointer (some ⟨g1, 0, none⟩) := by rw [ha0]; rfl
    have k7 : a0.tmps[7]?.getD undef = .int .i64 i := by rw [ha0]; rfl
    refine wp_region_vals (by kernel_rfl) rlT (by kernel_rfl) (by kernel_rfl) hl (fun i => a0.tmps[i + 29]?.getD undef) (by rw [ha0]; rfl) (Gr wr) (rlV g0 g1 i CA CB X Y qq) (show Gr _ _ from (Below.refl _ _).drew) (rlV.keep _ _ _ _ _ _ _ _) ⟨?_, ?_, ?_, ?_, ?_, ?_, ?_, trivial⟩ ?_
    · refine step_plain [] (by kernel_rfl) rfl fun us w' hG hV => ?_
      have o3 := (frame_old2 (us := us) (a := a0) (show (rlT[3]?).join = none from rfl)).trans k3
      have hg1 := hG.row RA.out
      generalize frame rlT a0 us = fr at *
      exact load_ok 25 3 rfl (g0) o3 _ _ (0, 0) _ hg1 Try.underlying25 rfl IA.out hG rfl
    · refine step_plain [] (by kernel_rfl) rfl fun us w' hG hV => ?_
      have o7 := (frame_old2 (us := us) (a := a0) (show (rlT[7]?).join = none from rfl)).trans k7
      generalize frame rlT a0 us = fr at *
      exact val_ok (v := .int .i64 i) (w' := w') (by go_simp) hG (Below.refl _ _) rfl
    · refine step_plain [0, 1] (by kernel_rfl) rfl fun us w' hG hV => ?_
      have e0 : us 0 = .agg CA := hV 0 (by simp)
      have v0 := (frame_at2 (us := us) hl (show (rlT[29]?).join = some 0 from rfl)).trans e0
      have e1 : us 1 = .int .i64 i := hV 1 (by simp)
      have v1 := (frame_at2 (us := us) hl (show (rlT[30]?).join = some 1 from rfl)).trans e1
      generalize frame rlT a0 us = fr at *
      exact call_ok (f := 60) (args := #[.agg CA, .int .i64 i]) (by go_simp) ((BX.out w').mono fun e w'' h => ⟨_, h.1, hG.below h.2, h.2, rfl⟩)
    · refine step_plain [] (by kernel_rfl) rfl fun us w' hG hV => ?_
      have o4 := (frame_old2 (us := us) (a := a0) (show (rlT[4]?).join = none from rfl)).trans k4
      have hg1 := hG.row RB.out
      generalize frame rlT a0 us = fr at *
      exact load_ok 25 4 rfl (g1) o4 _ _ (0, 0) _ hg1 Try.underlying25 rfl IB.out hG rfl
    · refine step_plain [] (by kernel_rfl) rfl fun us w' hG hV => ?_
      have o7 := (frame_old2 (us := us) (a := a0) (show (rlT[7]?).join = none from rfl)).trans k7
      generalize frame rlT a0 us = fr at *
      exact val_ok (v := .int .i64 i) (w' := w') (by go_simp) hG (Below.refl _ _) rfl
    · refine step_plain [3, 4] (by kernel_rfl) rfl fun us w' hG hV => ?_
      have e3 : us 3 = .agg CB := hV 3 (by simp)
      have v3 := (frame_at2 (us := us) hl (show (rlT[32]?).join = some 3 from rfl)).trans e3
      have e4 : us 4 = .int .i64 i := hV 4 (by simp)
      have v4 := (frame_at2 (us := us) hl (show (rlT[33]?).join = some 4 from rfl)).trans e4
      generalize frame rlT a0 us = fr at *
      exact call_ok (f := 60) (args := #[.agg CB, .int .i64 i]) (by go_simp) ((BY.out w').mono fun e w'' h => ⟨_, h.1, hG.below h.2, h.2, rfl⟩)
    · refine step_plain [2, 5] (by kernel_rfl) rfl fun us w' hG hV => ?_
      have e2 : us 2 = .int .u8 X := hV 2 (by simp)
      have v2 := (frame_at2 (us := us) hl (show (rlT[31]?).join = some 2 from rfl)).trans e2
      have e5 : us 5 = .int .u8 Y := hV 5 (by simp)
      have v5 := (frame_at2 (us := us) hl (show (rlT[34]?).join = some 5 from rfl)).trans e5
      have eq := EQ.out
      generalize frame rlT a0 us = fr at *
      exact val_ok (v := .bool qq) (w' := w') (by go_simp) hG (Below.refl _ _) rfl
    · intro us w5 hG hV
      have e9 : us 6 = .bool qq := hV 6 (by decide)
      subst ha0
      simp only [frame, rlT, fill]
      rw [e9]
      have HG := Lib.hid hG
      clear hV hl hG e9
      cases qq
      · have HQ := Lib.hid (EQ.out)
        go_wp2_with fail
        go_roundw
        case rel => exact ⟨i + 1, by go_num, by have := HI.out; omega, fun j hj => by
          rcases Nat.lt_or_ge j i with q | q
          · exact HZ.out j q
          · obtain rfl : j = i := by omega
            have := HQ.out
            rw [HX.out, HY.out] at this
            simpa using this, HBQ.out.trans (Below.mono HG.out HBQ.out.size)⟩
        case measure => have := HI.out; simp [intOf]; omega
      · have hv := Lib.hid (show V = false from Bool.eq_false_iff.2 fun h => by
          have h1 := (LB.out.1 h).2.2.2 i (by have := HI.out; omega)
          have := EQ.out
          rw [HX.out, HY.out, h1] at this
          simp at this)
        go_wp2_with fail
        go_ret
        exact ⟨ret_bool hv.out.symm, HBW.out.trans (Below.mono HG.out HBW.out.size)⟩
end Go.Proofs.Ytflfkhcbkhdahaa.rtC

/-
  Which operation a walk stands at: told by its form alone, so that an arm that does not fit falls at once.
-/
namespace Go.Proofs.Ytflfkhcbkhdahaa.atC
open Go.ChangeShapes Go.WideShapes Go.ChangeAt Go.RowKit
section
variable {P : Program} {ops : Array Oper} {rest : List Oper} {a : Act} {w : World} {Q : Exit → Act → World → Prop} {d : Option Tmp} {t : TypeId} {p : String} {f : Array Edge} {g : Option (Nat × Bool)}
theorem at_load (ty : TypeId) (s : Tmp) (h : wpList P ops Q (⟨d, .load ty (.tmp s), t, p, f, g⟩ :: rest) a w) : wpList P ops Q (⟨d, .load ty (.tmp s), t, p, f, g⟩ :: rest) a w := h
theorem at_bin {x y : Operand} {r : TypeId} (o : BinOp) (ty : TypeId) (h : wpList P ops Q (⟨d, .binOp o ty x y r, t, p, f, g⟩ :: rest) a w) : wpList P ops Q (⟨d, .binOp o ty x y r, t, p, f, g⟩ :: rest) a w := h
theorem at_one {o : Oper} (h : wpList P ops Q (o :: rest) a w) : wpList P ops Q (o :: rest) a w := h
end
end Go.Proofs.Ytflfkhcbkhdahaa.atC

/-
  How an argument that is an address is opened.
-/
namespace Go.Proofs.Ytflfkhcbkhdahaa.adC
open Go.ChangeShapes Go.WideShapes Go.ChangeAt Go.RowKit
open Go.Proofs.Ytflfkhcbkhdahaa.memC Go.Proofs.Ytflfkhcbkhdahaa.genC Go.Proofs.Ytflfkhcbkhdahaa.butC Go.Proofs.Ytflfkhcbkhdahaa.freeC
set_option linter.unusedVariables false
section
variable {P : Program} {w : World} {r : Reach} {b0 : Nat} {t : TypeId}
theorem cell_u8 {ti : TypeId} {v : Value} (hi : P.underlying ti = some (.int .u8)) (h : Cell.okWide P w r b0 ti v) : ∃ z, v = .int .u8 z ∧ Byte z := by
  unfold Cell.okWide at h
  rw [hi] at h
  unfold Cell.ok at h
  rw [hi] at h
  cases v <;> simp at h
  obtain ⟨rfl, h1, h2⟩ := h
  exact ⟨_, rfl, by simpa [IntKind.min, IntKind.max, IntKind.signed, IntKind.bits] using h1, by simpa [IntKind.min, IntKind.max, IntKind.signed, IntKind.bits] using h2⟩
theorem cell_bool {tb : TypeId} {v : Value} (hb : P.underlying tb = some .bool) (h : Cell.okWide P w r b0 tb v) : ∃ s, v = .bool s := by
  unfold Cell.okWide at h
  rw [hb] at h
  unfold Cell.ok at h
  rw [hb] at h
  cases v <;> simp at h
  exact ⟨_, rfl⟩
theorem open_addr {fs : Array Field} {tb ti : TypeId} {v : Value} (ht : P.underlying t = some (.struct fs)) (hc : P.cellsOf t = 17) (hts : P.cellTypes P.depth t = some (tb :: List.replicate 16 ti))
    (hb : P.underlying tb = some .bool) (hi : P.underlying ti = some (.int .u8)) (hval : Value.okWide P w r b0 t v) :
    ∃ (s : Bool) (bs : List Int), v = .agg (adrV s bs) ∧ bs.length = 16 ∧ ∀ x ∈ bs, Byte x := by
  obtain ⟨cs, rfl, hsz, ts, hts', _, hcell⟩ : ∃ cs, v = .agg cs ∧ cs.size = P.cellsOf t ∧ Row.okWide P w r b0 t cs := by
    simpa [Value.okWide, ht] using hval
  obtain ⟨l⟩ := cs
  rw [hc] at hsz
  have hl : l.length = 17 := by simpa using hsz
  rw [hts] at hts'
  obtain rfl := Option.some.inj hts'
  have key : ∀ i, i < 17 → ∃ v u, l[i]? = some v ∧ (tb :: List.replicate 16 ti)[i]? = some u ∧ Cell.okWide P w r b0 u v := fun i hi36 => by
    have e : l[i]? = some (l[i]'(by omega)) := List.getElem?_eq_getElem _
    obtain ⟨u, h1, h2⟩ := hcell i (l[i]'(by omega)) (by rw [← e]; simp)
    refine ⟨_, u, e, ?_, h2⟩
    have : i % 17 = i := Nat.mod_eq_of_lt hi36
    simpa [this] using h1
  obtain ⟨s, hs⟩ : ∃ s, l[0]? = some (.bool s) := by
    obtain ⟨v, u, h1, h2, h3⟩ := key 0 (by decide)
    obtain rfl : tb = u := by simpa using h2
    obtain ⟨s, rfl⟩ := cell_bool hb h3
    exact ⟨s, h1⟩
  have kb : ∀ i, i < 16 → ∃ z, l[1 + i]? = some (.int .u8 z) ∧ Byte z := fun i hi' => by
    obtain ⟨v, u, h1, h2, h3⟩ := key (1 + i) (by omega)
    have : u = ti := by
      rw [Nat.add_comm, List.getElem?_cons_succ, List.getElem?_replicate, if_pos hi'] at h2
      exact (Option.some.inj h2).symm
    subst this
    obtain ⟨z, rfl, hz⟩ := cell_u8 hi h3
    exact ⟨z, h1, hz⟩
  match l, hl, hs, kb with
  | v0 :: rest, hl, hs, kb =>
    have e0 : v0 = .bool s := by simpa using hs
    subst e0
    have hr : rest.length = 16 := by simpa using hl
    refine ⟨s, rest.map fun v => match v with | .int _ z => z | _ => 0, ?_, by rw [List.length_map, hr], fun x hx => ?_⟩
    · unfold adrV
      congr 2
      rw [List.map_map]
      apply congrArg (Value.bool s :: ·)
      apply List.ext_getElem?
      intro i
      by_cases hi : i < 16
      · obtain ⟨z, hz, _⟩ := kb i hi
        rw [Nat.add_comm, List.getElem?_cons_succ] at hz
        rw [List.getElem?_map, hz]; rfl
      · rw [List.getElem?_eq_none (by omega), List.getElem?_eq_none (by rw [List.length_map]; omega)]
    · obtain ⟨v, hv, rfl⟩ := List.mem_map.1 hx
      obtain ⟨i, hi, rfl⟩ := List.getElem_of_mem hv
      obtain ⟨z, hz, hw⟩ := kb i (by omega)
      rw [Nat.add_comm, List.getElem?_cons_succ, List.getElem?_eq_getElem hi] at hz
      rw [Option.some.inj hz]; exact hw
end
end Go.Proofs.Ytflfkhcbkhdahaa.adC

/-
  Packets as values: their cells, and how one that came in is opened.
-/
namespace Go.Proofs.Ytflfkhcbkhdahaa.pkC
open Go.ChangeShapes Go.WideShapes Go.ChangeAt Go.RowKit
open Go.Proofs.Ytflfkhcbkhdahaa.memC Go.Proofs.Ytflfkhcbkhdahaa.genC Go.Proofs.Ytflfkhcbkhdahaa.butC Go.Proofs.Ytflfkhcbkhdahaa.freeC Go.Proofs.Ytflfkhcbkhdahaa.adC
set_option linter.unusedVariables false
/-- a packet, but for its load -/
structure Pkt where
  s : Bool
  a : List Int
  t : Bool
  b : List Int
  proto : Int
  hops : Int
  id : Int
  whole : Bool
  more : Bool
  off : Int
def adrC (s : Bool) (b : List Int) : List Value := .bool s :: b.map (Value.int .u8)
/-- what is known of a packet's cells -/
structure PkC (C : Array Value) (p : Pkt) (A : Option Addr) (n c : Nat) : Prop where
  size : C.size = 41
  src : ∀ j v, (adrC p.s p.a)[j]? = some v → C[0 + j]? = some v
  dst : ∀ j v, (adrC p.t p.b)[j]? = some v → C[17 + j]? = some v
  proto : C[34]? = some (.int .u8 p.proto)
  hops : C[35]? = some (.int .u8 p.hops)
  id : C[36]? = some (.int .u32 p.id)
  whole : C[37]? = some (.bool p.whole)
  more : C[38]? = some (.bool p.more)
  off : C[39]? = some (.int .i64 p.off)
  load : C[40]? = some (.slice A n c)
theorem wpList_load_partG {P : Program} {ops : Array Oper} {rest : List Oper} {o : Oper} {a : Act} {w : World} {Q : Exit → Act → World → Prop} (hw : Region.wanted o (yielded ops a.tmps) = true) (ty : TypeId) (x : Operand) (ho : o.op = .load ty x)
    (g q : Nat) (hx : a.eval x = .pointer (some ⟨g, q, none⟩)) (l : List Value) (d : TypeDesc) (hc : ∀ j v, l[j]? = some v → w.cell? ⟨g, q + j, none⟩ = some v)
    (hu : P.underlying ty = some d) (hd : (match d with | .struct _ | .array _ _ => true | _ => false) = true) (hi : (P.info? ty).map (·.size) = some l.length)
    (h : wpList P ops Q rest (a.put o.dst (.agg l.toArray)) w) : wpList P ops Q (o :: rest) a w := by
  refine wpList_step fun K hK => ?_
  rw [if_pos hw]
  unfold Oper.wp execOp
  simp only [ho, hx, Instr.loadAt, Instr.sureAddr, Sem.run_bind, Sem.run_pure, Result.andThen_ok, partC.run_load_part w g q ty l d hc hu hd hi]
  exact hK _ _ h
/-- a block's cells, read -/
theorem PkC.cell {C : Array Value} {w : World} {g : Nat} {T : TypeId} (R : w.heap[g]? = some (.cells C T (0, 0))) {k : Nat} {v : Value} (h : C[k]? = some v) : w.cell? ⟨g, k, none⟩ = some v := by
  rw [cell_of_row w g k C T (0, 0) R]; exact h
theorem PkC.part {C : Array Value} {w : World} {g : Nat} {T : TypeId} (R : w.heap[g]? = some (.cells C T (0, 0))) {l : List Value} {q : Nat} (h : ∀ j v, l[j]? = some v → C[q + j]? = some v) : ∀ j v, l[j]? = some v → w.cell? ⟨g, q + j, none⟩ = some v :=
  fun j v hv => PkC.cell R (h j v hv)
section
variable {P : Program} {w : World} {r : Reach} {b0 : Nat} {t : TypeId}
end
end Go.Proofs.Ytflfkhcbkhdahaa.pkC

/-
  Mask, by the document: bit by bit.
-/
namespace Go.Proofs.Ytflfkhcbkhdahaa.mkC
open Go.ChangeShapes Go.WideShapes Go.ChangeAt Go.RowKit
open Go.Proofs.Ytflfkhcbkhdahaa.memC Go.Proofs.Ytflfkhcbkhdahaa.genC Go.Proofs.Ytflfkhcbkhdahaa.butC Go.Proofs.Ytflfkhcbkhdahaa.freeC Go.Proofs.Ytflfkhcbkhdahaa.adC Go.Proofs.Ytflfkhcbkhdahaa.rtC
set_option linter.unusedVariables false
set_option maxRecDepth 100000 in
theorem set_or : ∀ k : Nat, k < 8 → ∀ n : Nat, n < 256 → bits .or .u8 (mk1 (n : Int) k) (IntKind.u8.wrap (((n : Int) / (2 ^ (7 - k) : Nat) % 2) * 2 ^ (7 - k))) = mk1 (n : Int) (k + 1) := by decide +kernel
theorem mskL_next {a : List Int} {i j m : Nat} (ha : a.length = 16) (hj : j = i / 8) (hm : m = i % 8) (hi : i < 128) : mskL a ((i + 1 : Nat) : Int) = (mskL a (i : Int)).set j (mk1 (a.getD j 0) (m + 1)) ∧ (mskL a (i : Int)).getD j 0 = mk1 (a.getD j 0) m := by
  have l1 := mskL_len (i : Int) ha
  have l2 := mskL_len ((i + 1 : Nat) : Int) ha
  constructor
  · refine ext16 l2 (by rw [List.length_set, l1]) fun q hq => ?_
    rw [mskL_at _ ha hq]
    by_cases e : q = j
    · subst e
      have e : kpN ((i + 1 : Nat) : Int) q = m + 1 := by unfold kpN; omega
      rw [List.getD_eq_getElem?_getD (l := List.set _ _ _), List.getElem?_set_self (by rw [l1]; exact hq), Option.getD_some, e]
    · rw [List.getD_eq_getElem?_getD (l := List.set _ _ _), List.getElem?_set_ne (Ne.symm e), ← List.getD_eq_getElem?_getD, mskL_at _ ha hq]
      have e2 : kpN ((i + 1 : Nat) : Int) q = kpN (i : Int) q := by unfold kpN; omega
      rw [e2]
  · have e : kpN (i : Int) j = m := by unfold kpN; omega
    rw [mskL_at _ ha (by omega), e]
theorem mskL_zero {a : List Int} (ha : a.length = 16) (ya : ∀ x ∈ a, Byte x) : mskL a 0 = zs 16 := by
  refine ext16 (mskL_len 0 ha) (zs_len 16) fun q hq => ?_
  rw [mskL_at _ ha hq]
  have e : kpN 0 q = 0 := by unfold kpN; omega
  rw [e]
  have hb : Byte (a.getD q 0) := ya _ (by rw [List.getD_eq_getElem?_getD, List.getElem?_eq_getElem (by rw [ha]; exact hq)]; exact List.getElem_mem _)
  rw [mk1_zero hb, List.getD_eq_getElem?_getD]
  unfold zs
  rw [List.getElem?_replicate, if_pos hq]
  rfl
/-- a literal with fields -/
theorem built_runM {P : Program} {fr : Act} {o : Oper} {w : World} {T : TypeId} {fs : Array (Nat × Operand)} {L : List (Nat × Value)} {C : Array Value} (ho : o.op = .build T fs) (hL : fs.toList.map (fun p => (p.1, fr.eval p.2)) = L) (hb : P.built T L = some C) :
    (execOp fr.eval o).run P w = .ok (.value (.agg C)) w := by
  unfold execOp
  have e1 : (fs.map fun p => (p.1, fr.eval p.2)) = L.toArray := by rw [← hL]; apply Array.ext'; simp
  have h : (Instr.build T L.toArray).run P w = .ok (.agg C) w := run_build w T L.toArray C (by simpa using hb)
  simp [ho, e1, h, Result.andThen_ok]
section
variable {P : Program} {ops : Array Oper} {rest : List Oper} {a : Act} {w : World} {Q : Exit → Act → World → Prop} {d : Option Tmp} {t : TypeId} {p : String} {f : Array Edge} {g : Option (Nat × Bool)}
theorem at_build (ty : TypeId) {fs : Array (Nat × Operand)} (h : wpList P ops Q (⟨d, .build ty fs, t, p, f, g⟩ :: rest) a w) : wpList P ops Q (⟨d, .build ty fs, t, p, f, g⟩ :: rest) a w := h
end
/-- a masked address, or none -/
def MRet (c : Int) (w : World) (o : Option (Bool × List Int)) (e : Ending) (w' : World) : Prop :=
  (match o with | some (s, b) => e = .returned (.tuple #[.agg (adrV s b), .int .i64 0]) | none => e = .returned (.tuple #[.agg zAdr, .int .i64 c])) ∧ Below w.heap.size w w'
theorem adrI (s : Bool) {b : List Int} (h : b.length = 16) : (Try.prog.info? 25).map (·.size) = some (adrV s b).size := by rw [adrV_size h]; exact addr_info
theorem six_built (s : Bool) : Try.prog.built 25 [(0, .bool s)] = some (adrV s (zs 16)) := by kernel_rfl
theorem built_zeroM : Try.prog.built 25 [] = some zAdr := by kernel_rfl
def mkV (g6 ga i j k sh : Nat) (CA : Array Value) (x b y : Int) : Nat → Value → World → Prop
  | 0, v, _ => v = .int .i64 (i : Int)
  | 1, v, _ => v = .int .i64 (j : Int)
  | 2, v, _ => v = .pointer (some ⟨g6, 1, none⟩)
  | 3, v, _ => v = .pointer (some ⟨g6, 1 + j, none⟩)
  | 4, v, _ => v = .int .u8 x
  | 5, v, _ => v = .agg CA
  | 6, v, _ => v = .int .i64 (i : Int)
  | 7, v, _ => v = .int .u8 b
  | 8, v, _ => v = .int .i64 (i : Int)
  | 9, v, _ => v = .int .i64 (k : Int)
  | 10, v, _ => v = .int .i64 (sh : Int)
  | 11, v, _ => v = .int .u8 (IntKind.u8.wrap (b * 2 ^ sh))
  | 12, v, _ => v = .int .u8 y
  | 13, v, _ => v = .pointer (some ⟨g6, 1, none⟩)
  | 14, v, _ => v = .pointer (some ⟨g6, 1 + j, none⟩)
  | _, _, _ => True
theorem mkV.keep (g6 ga i j k sh : Nat) (CA : Array Value) (x b y : Int) (q9 : Nat) (v : Value) (w w' : World) (hb : Below w.heap.size w w') (h : mkV g6 ga i j k sh CA x b y q9 v w) : mkV g6 ga i j k sh CA x b y q9 v w' := by
  unfold mkV at h ⊢
  split at h <;> exact h
def mkT : List (Option Nat) := [none, none, none, none, none, none, none, none, none, none, none, none, none, none, none, none, none, none, none, none, none, none, none, none, none, none, some 0, some 1, some 2, some 3, some 4, some 5, some 6, some 7, some 8, some 9, some 10, some 11, some 12, some 13, some 14, none]
set_option maxRecDepth 100000 in
set_option maxHeartbeats 4000000 in
theorem rmask_low (s : Bool) (a : List Int) (len : Int) (w : World) (ha : a.length = 16) (ya : ∀ x ∈ a, Byte x) (h0 : len < 0) : Calls Try.prog 51 #[.agg (adrV s a), .int .i64 len] w (MRet 1 w (maskO s a len)) := by
  have hv : maskO s a len = none := by unfold maskO; rw [if_pos (.inl h0)]
  rw [hv]
  have hzv := zeroAdr
  obtain ⟨ZA, hZA⟩ : ∃ Z, Z = zAdr := ⟨_, rfl⟩
  have HZA := Lib.hid hZA
  rw [← hZA] at hzv
  obtain ⟨W, hW⟩ : ∃ W, W = (w.alloc (.cells (adrV s a) 25)).alloc (.cells ZA 25) := ⟨_, rfl⟩
  obtain ⟨ga, hga⟩ : ∃ g, g = w.heap.size := ⟨_, rfl⟩
  have e1 : (w.alloc (.cells (adrV s a) 25)).heap.size = w.heap.size + 1 := alloc_size _ _
  have R0 := Lib.hid (show W.heap[ga]? = some (.cells (adrV s a) 25 (0, 0)) by rw [hW, hga, Below.block (alloc_below _ _) _ (by rw [e1]; omega)]; exact heap_alloc_new _ _)
  have R1 := Lib.hid (show W.heap[ga + 1]? = some (.cells ZA 25 (0, 0)) by rw [hW, hga, ← e1]; exact heap_alloc_new _ _)
  have HB := Lib.hid (show Below w.heap.size w W by rw [hW]; exact (alloc_below w _).trans ((alloc_below _ _).mono (by rw [e1]; omega)))
  have HGA := Lib.hid hga
  have HWS := Lib.hid (show W.heap.size = ga + 2 by rw [hW, alloc_size, e1, hga])
  have IA := Lib.hid (adrI s ha)
  have k0 : W.cell? ⟨ga, 0, none⟩ = some (.bool s) := by rw [cell_of_row W _ 0 _ _ (0, 0) R0.out]; exact adrV_six _ _
  have SZ := Lib.hid (fun w' => size_any s a w' ha)
  have BA := Lib.hid (fun w' (i : Nat) (hi : i < 128) => bit_any s a i w' ha ya hi)
  have hN := adrN_le s
  have w8 : IntKind.i64.wrap (8 * (adrN s : Int)) = 8 * (adrN s : Int) := IntWalk.i64_in _ (by omega)
  have HN := Lib.hid hN
  have ZI := Lib.hid (show (Try.prog.info? 25).map (·.size) = some ZA.size by rw [hZA]; exact adrI false (zs_len 16))
  have ZO := Lib.hid (show ZA.all (·.oneCell') = true by rw [hZA]; exact adrV_one _ _)
  have ZB := Lib.hid (show Try.prog.built 25 [] = some ZA by rw [hZA]; exact built_zeroM)
  clear hZA hN e1
  generalize adrV s a = CA at *
  clear ha ya hv w8
  go_enter Try.func51, Try.ntmps51
  go_upto_region 1 with fail
  rw [← hW, ← hga]
  clear hW hga
  go_wp2_with (first
    | go_skip
    | (refine wpList_load_rowG (by kernel_rfl) 25 (.tmp 2) rfl ga (by kernel_rfl) _ _ _ _ R0.out Try.underlying25 rfl IA.out ?_)
    | (go_at_call 59; (refine (SZ.out _).mono ?_); rintro e w2 ⟨rfl, B2⟩
       have HB2 := Lib.hid B2
       have R02 := Lib.hid ((B2.block _ (lt_of_row R0.out)).trans R0.out)
       have R12 := Lib.hid ((B2.block _ (lt_of_row R1.out)).trans R1.out)
       clear B2)
    | (with_reducible refine at_build 25 ?_; refine adC.wpList_zero rfl 25 rfl ZA ZB.out ?_)
    | (refine wpList_store_row rfl 25 (.tmp 4) (.tmp 17) rfl (ga + 1) ZA rfl rfl _ _ R1.out ZI.out rfl ZO.out ?_))
  refine bodyPost_ret (v := .tuple #[.agg ZA, .int .i64 1]) (adC.results_cell_tmp Try.results51 _ _ (ga + 1) _ _ _ _ _ (by rfl) (setRow_heap _ _ _ _ _ _ R1.out) Try.underlying25 rfl ZI.out (by rfl)) rfl ?_
  exact ⟨by rw [HZA.out], HB.out.trans ⟨rfl, rfl, rfl, by simp, fun z hz => setRow_other _ _ _ _ (by have := HGA.out; omega)⟩⟩
set_option maxRecDepth 100000 in
set_option maxHeartbeats 4000000 in
theorem rmask_high (s : Bool) (a : List Int) (len : Int) (w : World) (ha : a.length = 16) (ya : ∀ x ∈ a, Byte x) (h0 : ¬ len < 0) (h1 : 8 * (adrN s : Int) < len) : Calls Try.prog 51 #[.agg (adrV s a), .int .i64 len] w (MRet 1 w (maskO s a len)) := by
  have hv : maskO s a len = none := by unfold maskO; rw [if_pos (.inr h1)]
  rw [hv]
  have hzv := zeroAdr
  obtain ⟨ZA, hZA⟩ : ∃ Z, Z = zAdr := ⟨_, rfl⟩
  have HZA := Lib.hid hZA
  rw [← hZA] at hzv
  obtain ⟨W, hW⟩ : ∃ W, W = (w.alloc (.cells (adrV s a) 25)).alloc (.cells ZA 25) := ⟨_, rfl⟩
  obtain ⟨ga, hga⟩ : ∃ g, g = w.heap.size := ⟨_, rfl⟩
  have e1 : (w.alloc (.cells (adrV s a) 25)).heap.size = w.heap.size + 1 := alloc_size _ _
  have R0 := Lib.hid (show W.heap[ga]? = some (.cells (adrV s a) 25 (0, 0)) by rw [hW, hga, Below.block (alloc_below _ _) _ (by rw [e1]; omega)]; exact heap_alloc_new _ _)
  have R1 := Lib.hid (show W.heap[ga + 1]? = some (.cells ZA 25 (0, 0)) by rw [hW, hga, ← e1]; exact heap_alloc_new _ _)
  have HB := Lib.hid (show Below w.heap.size w W by rw [hW]; exact (alloc_below w _).trans ((alloc_below _ _).mono (by rw [e1]; omega)))
  have HGA := Lib.hid hga
  have HWS := Lib.hid (show W.heap.size = ga + 2 by rw [hW, alloc_size, e1, hga])
  have IA := Lib.hid (adrI s ha)
  have k0 : W.cell? ⟨ga, 0, none⟩ = some (.bool s) := by rw [cell_of_row W _ 0 _ _ (0, 0) R0.out]; exact adrV_six _ _
  have SZ := Lib.hid (fun w' => size_any s a w' ha)
  have BA := Lib.hid (fun w' (i : Nat) (hi : i < 128) => bit_any s a i w' ha ya hi)
  have hN := adrN_le s
  have w8 : IntKind.i64.wrap (8 * (adrN s : Int)) = 8 * (adrN s : Int) := IntWalk.i64_in _ (by omega)
  have HN := Lib.hid hN
  have ZI := Lib.hid (show (Try.prog.info? 25).map (·.size) = some ZA.size by rw [hZA]; exact adrI false (zs_len 16))
  have ZO := Lib.hid (show ZA.all (·.oneCell') = true by rw [hZA]; exact adrV_one _ _)
  have ZB := Lib.hid (show Try.prog.built 25 [] = some ZA by rw [hZA]; exact built_zeroM)
  clear hZA hN e1
  generalize adrV s a = CA at *
  generalize adrN s = N at *
  clear ha ya hv
  go_enter Try.func51, Try.ntmps51
  go_upto_region 1 with fail
  rw [← hW, ← hga]
  clear hW hga
  go_wp2_with (first
    | go_skip
    | (refine wpList_load_rowG (by kernel_rfl) 25 (.tmp 2) rfl ga (by kernel_rfl) _ _ _ _ R0.out Try.underlying25 rfl IA.out ?_)
    | (go_at_call 59; (refine (SZ.out _).mono ?_); rintro e w2 ⟨rfl, B2⟩
       have HB2 := Lib.hid B2
       have R02 := Lib.hid ((B2.block _ (lt_of_row R0.out)).trans R0.out)
       have R12 := Lib.hid ((B2.block _ (lt_of_row R1.out)).trans R1.out)
       clear B2)
    | (with_reducible refine at_build 25 ?_; refine adC.wpList_zero rfl 25 rfl ZA ZB.out ?_)
    | (refine wpList_store_row rfl 25 (.tmp 4) (.tmp 17) rfl (ga + 1) ZA rfl rfl _ _ R12.out ZI.out rfl ZO.out ?_))
  refine bodyPost_ret (v := .tuple #[.agg ZA, .int .i64 1]) (adC.results_cell_tmp Try.results51 _ _ (ga + 1) _ _ _ _ _ (by rfl) (setRow_heap _ _ _ _ _ _ R12.out) Try.underlying25 rfl ZI.out (by rfl)) rfl ?_
  exact ⟨by rw [HZA.out], (HB.out.trans (HB2.out.mono HB.out.size)).trans ⟨rfl, rfl, rfl, by simp, fun z hz => setRow_other _ _ _ _ (by have := HGA.out; omega)⟩⟩
set_option maxRecDepth 100000 in
set_option maxHeartbeats 4000000 in
theorem rmask_in (s : Bool) (a : List Int) (len : Int) (w : World) (ha : a.length = 16) (ya : ∀ x ∈ a, Byte x) (h0 : ¬ len < 0) (h1 : ¬ 8 * (adrN s : Int) < len) : Calls Try.prog 51 #[.agg (adrV s a), .int .i64 len] w (MRet 1 w (maskO s a len)) := by
  rw [maskO_some h0 h1]
  obtain ⟨n, rfl⟩ : ∃ n : Nat, len = n := ⟨len.toNat, by omega⟩
  have hzv := zeroAdr
  obtain ⟨ZA, hZA⟩ : ∃ Z, Z = zAdr := ⟨_, rfl⟩
  have HZA := Lib.hid hZA
  rw [← hZA] at hzv
  obtain ⟨W, hW⟩ : ∃ W, W = (w.alloc (.cells (adrV s a) 25)).alloc (.cells ZA 25) := ⟨_, rfl⟩
  obtain ⟨ga, hga⟩ : ∃ g, g = w.heap.size := ⟨_, rfl⟩
  have e1 : (w.alloc (.cells (adrV s a) 25)).heap.size = w.heap.size + 1 := alloc_size _ _
  have R0 := Lib.hid (show W.heap[ga]? = some (.cells (adrV s a) 25 (0, 0)) by rw [hW, hga, Below.block (alloc_below _ _) _ (by rw [e1]; omega)]; exact heap_alloc_new _ _)
  have R1 := Lib.hid (show W.heap[ga + 1]? = some (.cells ZA 25 (0, 0)) by rw [hW, hga, ← e1]; exact heap_alloc_new _ _)
  have HB := Lib.hid (show Below w.heap.size w W by rw [hW]; exact (alloc_below w _).trans ((alloc_below _ _).mono (by rw [e1]; omega)))
  have HGA := Lib.hid hga
  have HWS := Lib.hid (show W.heap.size = ga + 2 by rw [hW, alloc_size, e1, hga])
  have IA := Lib.hid (adrI s ha)
  have k0 : W.cell? ⟨ga, 0, none⟩ = some (.bool s) := by rw [cell_of_row W _ 0 _ _ (0, 0) R0.out]; exact adrV_six _ _
  have SZ := Lib.hid (fun w' => size_any s a w' ha)
  have BA := Lib.hid (fun w' (i : Nat) (hi : i < 128) => bit_any s a i w' ha ya hi)
  have hN := adrN_le s
  have w8 : IntKind.i64.wrap (8 * (adrN s : Int)) = 8 * (adrN s : Int) := IntWalk.i64_in _ (by omega)
  have HN := Lib.hid hN
  have ZI := Lib.hid (show (Try.prog.info? 25).map (·.size) = some ZA.size by rw [hZA]; exact adrI false (zs_len 16))
  have ZO := Lib.hid (show ZA.all (·.oneCell') = true by rw [hZA]; exact adrV_one _ _)
  have ZB := Lib.hid (show Try.prog.built 25 [] = some ZA by rw [hZA]; exact built_zeroM)
  clear hZA hN e1
  have HNN := Lib.hid (show n ≤ 128 by have := HN.out; omega)
  have HA := Lib.hid (show a.length = 16 ∧ ∀ x ∈ a, Byte x from ⟨ha, ya⟩)
  obtain ⟨CZ, hCZ⟩ : ∃ C, C = adrV s (zs 16) := ⟨_, rfl⟩
  have SB := Lib.hid (show Try.prog.built 25 [(0, .bool s)] = some CZ by rw [hCZ]; exact six_built s)
  have CI := Lib.hid (show (Try.prog.info? 25).map (·.size) = some CZ.size by rw [hCZ]; exact adrI s (zs_len 16))
  have CS := Lib.hid (show ZA.size = CZ.size by rw [HZA.out, hCZ]; rfl)
  have CO := Lib.hid (show CZ.all (·.oneCell') = true by rw [hCZ]; exact adrV_one _ _)
  have HCZ := Lib.hid hCZ
  clear hCZ h0
  obtain ⟨CA, hCA⟩ : ∃ C, C = adrV s a := ⟨_, rfl⟩
  rw [← hCA] at R0 IA hW SZ ⊢
  have HC0 := Lib.hid (show CA[0]? = some (.bool s) by rw [hCA]; exact adrV_six s a)
  generalize hNs : adrN s = N at *
  clear ha ya hNs
  have BA := Lib.hid (show ∀ w' (i : Nat), i < 128 → Calls Try.prog 60 #[.agg CA, .int .i64 i] w' (Ret w' (.int .u8 (bitL a i))) by rw [hCA]; exact BA.out)
  clear hCA
  go_enter Try.func51, Try.ntmps51
  go_upto_region 1 with fail
  rw [← hW, ← hga]
  clear hW hga
  go_upto_region 4 with (first
    | go_skip
    | (refine wpList_load_rowG (by kernel_rfl) 25 (.tmp 2) rfl ga (by kernel_rfl) _ _ _ _ R0.out Try.underlying25 rfl IA.out ?_)
    | (go_at_call 59; (refine (SZ.out _).mono ?_); rintro e w2 ⟨rfl, B2⟩
       have HB2 := Lib.hid B2
       have R02 := Lib.hid ((B2.block _ (lt_of_row R0.out)).trans R0.out)
       have R12 := Lib.hid ((B2.block _ (lt_of_row R1.out)).trans R1.out)
       have k02 : w2.cell? ⟨ga, 0, none⟩ = some (.bool s) := by rw [cell_of_row w2 ga 0 _ _ (0, 0) R02.out]; exact HC0.out
       clear B2)
    | (with_reducible refine at_build 25 ?_; refine wpList_runG (by kernel_rfl) _ (built_runM (T := 25) (L := [(0, .bool s)]) rfl rfl SB.out) ?_)
    | (refine wpList_store_row rfl 25 (.tmp 6) (.tmp 20) rfl w2.heap.size CZ rfl rfl _ _ (heap_alloc_new _ _) CI.out CS.out CO.out ?_; rw [World.setRow_alloc_new]))
  obtain ⟨W4, hW4⟩ : ∃ W4, W4 = w2.alloc (.cells CZ 25) := ⟨_, rfl⟩
  obtain ⟨g6, hg6⟩ : ∃ g, g = w2.heap.size := ⟨_, rfl⟩
  have R64 := Lib.hid (show W4.heap[g6]? = some (.cells (adrV s (zs 16)) 25 (0, 0)) by rw [← HCZ.out, hW4, hg6]; exact heap_alloc_new _ _)
  have HB24 := Lib.hid (show Below w2.heap.size w2 W4 by rw [hW4]; exact alloc_below _ _)
  have HG6 := Lib.hid (show ga + 1 < g6 by rw [hg6]; have h1 := HB2.out.size; have h2 := HWS.out; omega)
  have R04 := Lib.hid ((HB24.out.block _ (lt_of_row R02.out)).trans R02.out)
  have R14 := Lib.hid ((HB24.out.block _ (lt_of_row R12.out)).trans R12.out)
  have HB4 := Lib.hid (show Below w.heap.size w W4 from (HB.out.trans (HB2.out.mono HB.out.size)).trans (HB24.out.mono (HB.out.trans (HB2.out.mono HB.out.size)).size))
  rw [← hW4, ← hg6]
  clear hW4 hg6 hzv k0 k02 w8 h1
  go_wp2_with fail
  go_loopw [7] (fun u wr => ∃ i : Nat, u = .int .i64 i ∧ i ≤ n ∧ (Below w.heap.size w wr ∧ wr.heap[ga]? = some (.cells CA 25 (0, 0)) ∧ wr.heap[ga + 1]? = some (.cells ZA 25 (0, 0)) ∧ wr.heap[g6]? = some (.cells (adrV s (mskL a (i : Int))) 25 (0, 0)))) (fun u _ => n - (intOf u).toNat)
  case atStart => exact ⟨0, rfl, Nat.zero_le _, HB4.out, R04.out, R14.out, by rw [show mskL a ((0 : Nat) : Int) = zs 16 from mskL_zero HA.out.1 HA.out.2]; exact R64.out⟩
  case round =>
    obtain ⟨i, rfl, hi, hrw⟩ := hrel
    have HR := Lib.hid hrw
    clear hrw
    by_cases hlt : i < n
    rotate_left
    · have q6 : ¬ (i : Int) < (n : Int) := by omega
      obtain rfl : i = n := by omega
      obtain ⟨CM, hCM⟩ : ∃ C, C = adrV s (mskL a (i : Int)) := ⟨_, rfl⟩
      have RM := Lib.hid (show wr.heap[g6]? = some (.cells CM 25 (0, 0)) by rw [hCM]; exact HR.out.2.2.2)
      have MI := Lib.hid (show (Try.prog.info? 25).map (·.size) = some CM.size by rw [hCM]; exact adrI s (mskL_len _ HA.out.1))
      have MS := Lib.hid (show ZA.size = CM.size by rw [HZA.out, hCM, adrV_size (mskL_len _ HA.out.1)]; rfl)
      have MO := Lib.hid (show CM.all (·.oneCell') = true by rw [hCM]; exact adrV_one _ _)
      have HCM := Lib.hid hCM
      have R1r := Lib.hid HR.out.2.2.1
      clear hCM hlt hi
      go_wp2_with (first
        | (refine wpList_load_row rfl 25 (.tmp 6) rfl g6 rfl _ _ _ _ RM.out Try.underlying25 rfl MI.out ?_)
        | (refine wpList_store_row rfl 25 (.tmp 4) (.tmp 41) rfl (ga + 1) CM rfl rfl _ _ R1r.out MI.out MS.out MO.out ?_))
      refine bodyPost_ret (v := .tuple #[.agg CM, .int .i64 0]) (adC.results_cell_tmp Try.results51 _ _ (ga + 1) _ _ _ _ _ (by rfl) (setRow_heap _ _ _ _ _ _ R1r.out) Try.underlying25 rfl MI.out (by rfl)) rfl ?_
      exact ⟨by rw [HCM.out], HR.out.1.trans ⟨rfl, rfl, rfl, by simp, fun z hz => setRow_other _ _ _ _ (by have := HGA.out; omega)⟩⟩
    have q6 : (i : Int) < (n : Int) := by omega
    have HI := Lib.hid hlt
    have hn := HNN.out
    obtain ⟨j, hj⟩ : ∃ j, j = i / 8 := ⟨_, rfl⟩
    obtain ⟨k, hk⟩ : ∃ k, k = i % 8 := ⟨_, rfl⟩
    obtain ⟨sh, hsh⟩ : ∃ q, q = 7 - k := ⟨_, rfl⟩
    obtain ⟨NX, AT⟩ := mskL_next HA.out.1 hj hk (show i < 128 by omega)
    obtain ⟨y, hy⟩ : ∃ y, y = mk1 (a.getD j 0) (k + 1) := ⟨_, rfl⟩
    obtain ⟨x, hx⟩ : ∃ x, x = mk1 (a.getD j 0) k := ⟨_, rfl⟩
    obtain ⟨b, hb⟩ : ∃ b, b = bitL a i := ⟨_, rfl⟩
    have hab : Byte (a.getD j 0) := HA.out.2 _ (by rw [List.getD_eq_getElem?_getD, List.getElem?_eq_getElem (by rw [HA.out.1]; omega)]; exact List.getElem_mem _)
    have hor : bits .or .u8 x (IntKind.u8.wrap (b * 2 ^ sh)) = y := by
      obtain ⟨m, hm⟩ : ∃ m : Nat, a.getD j 0 = m := ⟨(a.getD j 0).toNat, by unfold Byte at hab; omega⟩
      have h9 := set_or k (by omega) m (by unfold Byte at hab; omega)
      rw [hx, hb, hy, hsh]
      unfold bitL
      rw [← hj, ← hk, hm]
      exact h9
    have HJ := Lib.hid (show (((1 : Nat) : Int) + (j : Int)) = ((1 + j : Nat) : Int) ∧ j < 16 from ⟨by omega, by omega⟩)
    have BX := Lib.hid (fun w' => (show Calls Try.prog 60 #[.agg CA, .int .i64 i] w' (Ret w' (.int .u8 b)) by rw [hb]; exact BA.out w' i (by omega)))
    have hdv : (i : Int).tdiv 8 = (j : Int) := by rw [hj]; exact Int.ofNat_tdiv i 8
    have hmd : (i : Int).tmod 8 = (k : Int) := by rw [hk]; exact Int.ofNat_tmod i 8
    have hss : (7 : Int) - (k : Int) = (sh : Int) := by omega
    have wss : IntKind.i64.wrap (sh : Int) = (sh : Int) := IntWalk.i64_in _ (by omega)
    have wi : IntKind.i64.wrap ((i : Int) + 1) = (i : Int) + 1 := IntWalk.i64_in _ (by omega)
    have j16 : (j : Int) < 16 := by omega
    have wj : IntKind.i64.wrap (j : Int) = (j : Int) := IntWalk.i64_in _ (by omega)
    have l1 := mskL_len (i : Int) HA.out.1
    rw [← hx] at AT
    rw [← hy] at NX
    have CX := Lib.hid (fun (w' : World) (hG : Gr wr w') => (show w'.cell? ⟨g6, 1 + j, none⟩ = some (.int .u8 x) by
      rw [cell_of_row w' g6 (1 + j) _ _ (0, 0) ((Below.block hG g6 (lt_of_row HR.out.2.2.2)).trans HR.out.2.2.2), adrV_at (by omega), AT]))
    have FX := Lib.hid (fun (w' : World) (hG : Gr wr w') => (show w'.frozen? ⟨g6, 1 + j, none⟩ = false from frozen_of_row w' g6 (1 + j) _ _ ((Below.block hG g6 (lt_of_row HR.out.2.2.2)).trans HR.out.2.2.2)))
    have RA := Lib.hid (fun (w' : World) (hG : Gr wr w') => (show w'.heap[ga]? = some (.cells CA 25 (0, 0)) from (Below.block hG ga (lt_of_row HR.out.2.1)).trans HR.out.2.1))
    have STEP := Lib.hid (fun (w' : World) (hG : Gr wr w') => (show (Below w.heap.size w (w'.setCell ⟨g6, 1 + j, none⟩ (.int .u8 y)) ∧ (w'.setCell ⟨g6, 1 + j, none⟩ (.int .u8 y)).heap[ga]? = some (.cells CA 25 (0, 0)) ∧ (w'.setCell ⟨g6, 1 + j, none⟩ (.int .u8 y)).heap[ga + 1]? = some (.cells ZA 25 (0, 0)) ∧ (w'.setCell ⟨g6, 1 + j, none⟩ (.int .u8 y)).heap[g6]? = some (.cells (adrV s (mskL a ((i + 1 : Nat) : Int))) 25 (0, 0))) by
      have hg := HG6.out
      have hga := HGA.out
      refine ⟨(HR.out.1.trans (Gr.mono hG HR.out.1.size)).setCell (p := ⟨g6, 1 + j, none⟩) (by show w.heap.size ≤ g6; omega) _, (Below.heap_setCell _ _ _ _ (by show ga ≠ g6; omega)).trans (RA.out w' hG), (Below.heap_setCell _ _ _ _ (by show ga + 1 ≠ g6; omega)).trans ((Below.block hG (ga + 1) (lt_of_row HR.out.2.2.1)).trans HR.out.2.2.1), ?_⟩
      rw [heap_setCell_same w' g6 (1 + j) _ _ _ ((Below.block hG g6 (lt_of_row HR.out.2.2.2)).trans HR.out.2.2.2), adrV_set, NX]))
    have wr7 := q6
    clear hx hy hb hj hk hsh AT NX hab hn l1 hi hlt
    go_upto_region 7 with fail
    refine with_act fun a0 ha0 => ?_
    have hl : mkT.length = a0.tmps.size := by rw [ha0]; rfl
    have k2 : a0.tmps[2]?.getD undef = .pointer (some ⟨ga, 0, none⟩) := by rw [ha0]; rfl
    have k6 : a0.tmps[6]?.getD undef = .pointer (some ⟨g6, 0, none⟩) := by rw [ha0]; rfl
    have k7 : a0.tmps[7]?.getD undef = .int .i64 (i : Int) := by rw [ha0]; rfl
    refine wp_region_cov 15 (by kernel_rfl) mkT (by kernel_rfl) (by kernel_rfl) hl (by kernel_rfl) (by kernel_rfl) (by kernel_rfl) (fun i => a0.tmps[i + 26]?.getD undef) (by rw [ha0]; rfl) (Gr wr) (mkV g6 ga i j k sh CA x b y) (gr_drew _) (mkV.keep _ _ _ _ _ _ _ _ _ _) ⟨?_, ?_, ?_, ?_, ?_, ?_, ?_, ?_, ?_, ?_, ?_, ?_, ?_, ?_, ?_, trivial⟩ ?_
    · refine step_plain [] (by kernel_rfl) rfl fun us w' hG hV => ?_
      have o7 := (frame_old2 (us := us) (a := a0) (show (mkT[7]?).join = none from rfl)).trans k7
      generalize frame mkT a0 us = fr at *
      exact val_ok (v := .int .i64 (i : Int)) (w' := w') (by go_simp) hG (Below.refl _ _) rfl
    · refine step_plain [0] (by kernel_rfl) rfl fun us w' hG hV => ?_
      have e0 : us 0 = .int .i64 (i : Int) := hV 0 (by simp)
      have v0 := (frame_at2 (us := us) hl (show (mkT[26]?).join = some 0 from rfl)).trans e0
      generalize frame mkT a0 us = fr at *
      exact val_ok (v := .int .i64 (j : Int)) (w' := w') (by go_simp) hG (Below.refl _ _) rfl
    · refine step_plain [] (by kernel_rfl) rfl fun us w' hG hV => ?_
      have o6 := (frame_old2 (us := us) (a := a0) (show (mkT[6]?).join = none from rfl)).trans k6
      generalize frame mkT a0 us = fr at *
      exact val_ok (v := .pointer (some ⟨g6, 1, none⟩)) (w' := w') (by go_simp) hG (Below.refl _ _) rfl
    · refine step_plain [2, 1] (by kernel_rfl) rfl fun us w' hG hV => ?_
      have e2 : us 2 = .pointer (some ⟨g6, 1, none⟩) := hV 2 (by simp)
      have v2 := (frame_at2 (us := us) hl (show (mkT[28]?).join = some 2 from rfl)).trans e2
      have e1 : us 1 = .int .i64 (j : Int) := hV 1 (by simp)
      have v1 := (frame_at2 (us := us) hl (show (mkT[27]?).join = some 1 from rfl)).trans e1
      have hj := HJ.out
      generalize frame mkT a0 us = fr at *
      exact val_ok (v := .pointer (some ⟨g6, 1 + j, none⟩)) (w' := w') (by go_simp) hG (Below.refl _ _) rfl
    · refine step_plain [3] (by kernel_rfl) rfl fun us w' hG hV => ?_
      have e3 : us 3 = .pointer (some ⟨g6, 1 + j, none⟩) := hV 3 (by simp)
      have v3 := (frame_at2 (us := us) hl (show (mkT[29]?).join = some 3 from rfl)).trans e3
      have hc := CX.out w' hG
      generalize frame mkT a0 us = fr at *
      exact val_ok (v := .int .u8 x) (w' := w') (by go_simp) hG (Below.refl _ _) rfl
    · refine step_plain [] (by kernel_rfl) rfl fun us w' hG hV => ?_
      have o2 := (frame_old2 (us := us) (a := a0) (show (mkT[2]?).join = none from rfl)).trans k2
      have hg1 := RA.out w' hG
      generalize frame mkT a0 us = fr at *
      exact load_ok 25 2 rfl ga o2 _ _ (0, 0) _ hg1 Try.underlying25 rfl IA.out hG rfl
    · refine step_plain [] (by kernel_rfl) rfl fun us w' hG hV => ?_
      have o7 := (frame_old2 (us := us) (a := a0) (show (mkT[7]?).join = none from rfl)).trans k7
      generalize frame mkT a0 us = fr at *
      exact val_ok (v := .int .i64 (i : Int)) (w' := w') (by go_simp) hG (Below.refl _ _) rfl
    · refine step_plain [5, 6] (by kernel_rfl) rfl fun us w' hG hV => ?_
      have e5 : us 5 = .agg CA := hV 5 (by simp)
      have v5 := (frame_at2 (us := us) hl (show (mkT[31]?).join = some 5 from rfl)).trans e5
      have e6 : us 6 = .int .i64 (i : Int) := hV 6 (by simp)
      have v6 := (frame_at2 (us := us) hl (show (mkT[32]?).join = some 6 from rfl)).trans e6
      generalize frame mkT a0 us = fr at *
      exact call_ok (f := 60) (args := #[.agg CA, .int .i64 (i : Int)]) (by go_simp) ((BX.out w').mono fun e w'' h => ⟨_, h.1, hG.below h.2, h.2, rfl⟩)
    · refine step_plain [] (by kernel_rfl) rfl fun us w' hG hV => ?_
      have o7 := (frame_old2 (us := us) (a := a0) (show (mkT[7]?).join = none from rfl)).trans k7
      generalize frame mkT a0 us = fr at *
      exact val_ok (v := .int .i64 (i : Int)) (w' := w') (by go_simp) hG (Below.refl _ _) rfl
    · refine step_plain [8] (by kernel_rfl) rfl fun us w' hG hV => ?_
      have e8 : us 8 = .int .i64 (i : Int) := hV 8 (by simp)
      have v8 := (frame_at2 (us := us) hl (show (mkT[34]?).join = some 8 from rfl)).trans e8
      generalize frame mkT a0 us = fr at *
      exact val_ok (v := .int .i64 (k : Int)) (w' := w') (by go_simp) hG (Below.refl _ _) rfl
    · refine step_plain [9] (by kernel_rfl) rfl fun us w' hG hV => ?_
      have e9 : us 9 = .int .i64 (k : Int) := hV 9 (by simp)
      have v9 := (frame_at2 (us := us) hl (show (mkT[35]?).join = some 9 from rfl)).trans e9
      generalize frame mkT a0 us = fr at *
      exact val_ok (v := .int .i64 (sh : Int)) (w' := w') (by go_simp) hG (Below.refl _ _) rfl
    · refine step_plain [7, 10] (by kernel_rfl) rfl fun us w' hG hV => ?_
      have e7 : us 7 = .int .u8 b := hV 7 (by simp)
      have v7 := (frame_at2 (us := us) hl (show (mkT[33]?).join = some 7 from rfl)).trans e7
      have e10 : us 10 = .int .i64 (sh : Int) := hV 10 (by simp)
      have v10 := (frame_at2 (us := us) hl (show (mkT[36]?).join = some 10 from rfl)).trans e10
      generalize frame mkT a0 us = fr at *
      exact val_ok (v := .int .u8 (IntKind.u8.wrap (b * 2 ^ sh))) (w' := w') (by go_simp) hG (Below.refl _ _) rfl
    · refine step_plain [4, 11] (by kernel_rfl) rfl fun us w' hG hV => ?_
      have e4 : us 4 = .int .u8 x := hV 4 (by simp)
      have v4 := (frame_at2 (us := us) hl (show (mkT[30]?).join = some 4 from rfl)).trans e4
      have e11 : us 11 = .int .u8 (IntKind.u8.wrap (b * 2 ^ sh)) := hV 11 (by simp)
      have v11 := (frame_at2 (us := us) hl (show (mkT[37]?).join = some 11 from rfl)).trans e11
      generalize frame mkT a0 us = fr at *
      exact val_ok (v := .int .u8 y) (w' := w') (by go_simp) hG (Below.refl _ _) rfl
    · refine step_plain [] (by kernel_rfl) rfl fun us w' hG hV => ?_
      have o6 := (frame_old2 (us := us) (a := a0) (show (mkT[6]?).join = none from rfl)).trans k6
      generalize frame mkT a0 us = fr at *
      exact val_ok (v := .pointer (some ⟨g6, 1, none⟩)) (w' := w') (by go_simp) hG (Below.refl _ _) rfl
    · refine step_plain [13, 1] (by kernel_rfl) rfl fun us w' hG hV => ?_
      have e13 : us 13 = .pointer (some ⟨g6, 1, none⟩) := hV 13 (by simp)
      have v13 := (frame_at2 (us := us) hl (show (mkT[39]?).join = some 13 from rfl)).trans e13
      have e1 : us 1 = .int .i64 (j : Int) := hV 1 (by simp)
      have v1 := (frame_at2 (us := us) hl (show (mkT[27]?).join = some 1 from rfl)).trans e1
      have hj := HJ.out
      generalize frame mkT a0 us = fr at *
      exact val_ok (v := .pointer (some ⟨g6, 1 + j, none⟩)) (w' := w') (by go_simp) hG (Below.refl _ _) rfl
    · intro us w' o ho hG hV
      obtain rfl := Option.some.inj ho
      have e12 : us 12 = .int .u8 y := hV 12 (by decide)
      have v12 := (frame_at2 (us := us) hl (show (mkT[38]?).join = some 12 from rfl)).trans e12
      have e14 : us 14 = .pointer (some ⟨g6, 1 + j, none⟩) := hV 14 (by decide)
      have v14 := (frame_at2 (us := us) hl (show (mkT[40]?).join = some 14 from rfl)).trans e14
      have hc := CX.out w' hG
      have hf := FX.out w' hG
      have HGG := Lib.hid hG
      refine free_skip (w' := w'.setCell ⟨g6, 1 + j, none⟩ (.int .u8 y)) (by generalize frame mkT a0 us = fr at *; go_simp) ⟨undef, rfl, ?_⟩
      subst ha0
      simp only [Act.put, frame, mkT, fill]
      clear hV v12 e12 v14 e14 hc hf hG k2 k6 k7 hl
      go_wp2_with fail
      go_roundw
      case rel => exact ⟨i + 1, by go_num, by have := HI.out; omega, STEP.out _ HGG.out⟩
      case measure => have := HI.out; simp [intOf]; omega

theorem rmask_any (s : Bool) (a : List Int) (len : Int) (w : World) (ha : a.length = 16) (ya : ∀ x ∈ a, Byte x) : Calls Try.prog 51 #[.agg (adrV s a), .int .i64 len] w (MRet 1 w (maskO s a len)) := by
  by_cases h0 : len < 0
  · exact rmask_low s a len w ha ya h0
  · by_cases h1 : 8 * (adrN s : Int) < len
    · exact rmask_high s a len w ha ya h0 h1
    · exact rmask_in s a len w ha ya h0 h1
end Go.Proofs.Ytflfkhcbkhdahaa.mkC

/-
  Key tuples and pairs as values; over numbers.
-/
namespace Go.Proofs.Ytflfkhcbkhdahaa.mkC
open Go.ChangeShapes Go.WideShapes Go.ChangeAt Go.RowKit
open Go.Proofs.Ytflfkhcbkhdahaa.memC Go.Proofs.Ytflfkhcbkhdahaa.genC Go.Proofs.Ytflfkhcbkhdahaa.butC Go.Proofs.Ytflfkhcbkhdahaa.freeC Go.Proofs.Ytflfkhcbkhdahaa.adC Go.Proofs.Ytflfkhcbkhdahaa.rtC
set_option linter.unusedVariables false
theorem adrKn {s : Bool} {b : List Int} (h : b.length = 16) : (adrK s b).length = 17 := by simp [adrK, h]
theorem adrKo (s : Bool) (b : List Int) : ∀ u ∈ adrK s b, u.oneCell' = true := fun u hu => by
  rcases List.mem_cons.1 hu with rfl | hu
  · rfl
  · obtain ⟨z, -, rfl⟩ := List.mem_map.1 hu; rfl
theorem zsByte (n : Nat) : ∀ x ∈ zs n, Byte x := fun x hx => by rw [List.eq_of_mem_replicate hx]; unfold Byte; omega
/-- a key tuple, but for its master key -/
structure Kt where
  n : Int
  s : Bool
  a : List Int
  len : Int
  lp : Int
  rp : Int
  si : Int
  ri : Int
  alg : Int
  opts : Bool
structure Kt.Ok (k : Kt) : Prop where
  la : k.a.length = 16
  ya : ∀ x ∈ k.a, Byte x
  n : -9223372036854775808 ≤ k.n ∧ k.n ≤ 9223372036854775807
  len : -9223372036854775808 ≤ k.len ∧ k.len ≤ 9223372036854775807
  lp : 0 ≤ k.lp ∧ k.lp ≤ 65535
  rp : 0 ≤ k.rp ∧ k.rp ≤ 65535
  si : Byte k.si
  ri : Byte k.ri
  alg : -9223372036854775808 ≤ k.alg ∧ k.alg ≤ 9223372036854775807
def ktT (k : Kt) (A : Option Addr) (m c : Nat) : List Value := [.int .i64 k.len, .int .u16 k.lp, .int .u16 k.rp, .int .u8 k.si, .int .u8 k.ri, .int .i64 k.alg, .slice A m c, .bool k.opts]
def ktL (k : Kt) (A : Option Addr) (m c : Nat) : List Value := .int .i64 k.n :: (adrK k.s k.a ++ ktT k A m c)
def ktV (k : Kt) (A : Option Addr) (m c : Nat) : Array Value := (ktL k A m c).toArray
section
variable {k : Kt} {A : Option Addr} {m c : Nat}
theorem ktL_len (h : k.Ok) : (ktL k A m c).length = 26 := by
  unfold ktL
  rw [List.length_cons, List.length_append, adrKn h.la]
  rfl
theorem ktV_size (h : k.Ok) : (ktV k A m c).size = 26 := by unfold ktV; rw [List.size_toArray, ktL_len h]
theorem kt_one : ∀ u ∈ ktL k A m c, u.oneCell' = true := by
  intro u hu
  unfold ktL at hu
  rcases List.mem_cons.1 hu with rfl | hu
  · rfl
  · rcases List.mem_append.1 hu with hu | hu
    · exact adrKo _ _ u hu
    · unfold ktT at hu
      simp at hu
      rcases hu with rfl | rfl | rfl | rfl | rfl | rfl | rfl | rfl <;> rfl
theorem kt_ones : (ktV k A m c).all (·.oneCell') = true := by
  unfold ktV
  rw [List.all_toArray]
  exact List.all_eq_true.2 kt_one
theorem kt_n : (ktL k A m c)[0]? = some (.int .i64 k.n) := rfl
theorem kt_src {j : Nat} {v : Value} (hv : (adrK k.s k.a)[j]? = some v) : (ktL k A m c)[1 + j]? = some v := by
  unfold ktL
  rw [Nat.add_comm, List.getElem?_cons_succ, List.getElem?_append_left (List.getElem?_eq_some_iff.1 hv).1]
  exact hv
theorem kt_tail (h : k.Ok) (j : Nat) : (ktL k A m c)[18 + j]? = (ktT k A m c)[j]? := by
  have hl := adrKn (s := k.s) h.la
  unfold ktL
  rw [show 18 + j = (17 + j) + 1 by omega, List.getElem?_cons_succ, List.getElem?_append_right (by omega), hl, Nat.add_sub_cancel_left]
theorem kt_len (h : k.Ok) : (ktL k A m c)[18]? = some (.int .i64 k.len) := kt_tail h 0
theorem kt_lp (h : k.Ok) : (ktL k A m c)[19]? = some (.int .u16 k.lp) := kt_tail h 1
theorem kt_rp (h : k.Ok) : (ktL k A m c)[20]? = some (.int .u16 k.rp) := kt_tail h 2
theorem kt_si (h : k.Ok) : (ktL k A m c)[21]? = some (.int .u8 k.si) := kt_tail h 3
theorem kt_ri (h : k.Ok) : (ktL k A m c)[22]? = some (.int .u8 k.ri) := kt_tail h 4
theorem kt_alg (h : k.Ok) : (ktL k A m c)[23]? = some (.int .i64 k.alg) := kt_tail h 5
theorem kt_mst (h : k.Ok) : (ktL k A m c)[24]? = some (.slice A m c) := kt_tail h 6
theorem kt_opts (h : k.Ok) : (ktL k A m c)[25]? = some (.bool k.opts) := kt_tail h 7
theorem kt_cell {w : World} {g : Nat} {T : TypeId} (R : w.heap[g]? = some (.cells (ktV k A m c) T (0, 0))) {j : Nat} {v : Value} (h : (ktL k A m c)[j]? = some v) : w.cell? ⟨g, j, none⟩ = some v := by
  rw [cell_of_row w g j _ T (0, 0) R]
  unfold ktV
  rw [List.getElem?_toArray]
  exact h
theorem rk_info : (Try.prog.info? 41).map (·.size) = some 26 := by kernel_rfl
theorem pk_info : (Try.prog.info? 49).map (·.size) = some 26 := by kernel_rfl
theorem rkV_info (h : k.Ok) : (Try.prog.info? 41).map (·.size) = some (ktV k A m c).size := by rw [ktV_size h]; exact rk_info
theorem pkV_info (h : k.Ok) : (Try.prog.info? 49).map (·.size) = some (ktV k A m c).size := by rw [ktV_size h]; exact pk_info
theorem rkL_info (h : k.Ok) : (Try.prog.info? 41).map (·.size) = some (ktL k A m c).length := by rw [ktL_len h]; exact rk_info
theorem pkL_info (h : k.Ok) : (Try.prog.info? 49).map (·.size) = some (ktL k A m c).length := by rw [ktL_len h]; exact pk_info
end
theorem adrKi (s : Bool) {b : List Int} (h : b.length = 16) : (Try.prog.info? 25).map (·.size) = some (adrK s b).length := by rw [adrKn h]; exact addr_info
def zKt : Kt := ⟨0, false, zs 16, 0, 0, 0, 0, 0, 0, false⟩
theorem zKt_ok : zKt.Ok := ⟨zs_len 16, zsByte 16, by unfold zKt; simp, by unfold zKt; simp, by unfold zKt; simp, by unfold zKt; simp, by unfold zKt Byte; simp, by unfold zKt Byte; simp, by unfold zKt; simp⟩
set_option maxRecDepth 100000 in
theorem zrk_info : (Try.prog.info? 41).map (·.zero) = some (some (.agg (ktV zKt none 0 0))) := by kernel_rfl
theorem zeroRk (w : World) : (zeroValue 41).run Try.prog w = .ok (.agg (ktV zKt none 0 0)) w := by
  obtain ⟨i, hi, hz⟩ := Option.map_eq_some_iff.1 zrk_info
  simp [zeroValue, typeInfo, hi, hz]
set_option maxRecDepth 100000 in
theorem zpk_info : (Try.prog.info? 49).map (·.zero) = some (some (.agg (ktV zKt none 0 0))) := by kernel_rfl
theorem zeroPk (w : World) : (zeroValue 49).run Try.prog w = .ok (.agg (ktV zKt none 0 0)) w := by
  obtain ⟨i, hi, hz⟩ := Option.map_eq_some_iff.1 zpk_info
  simp [zeroValue, typeInfo, hi, hz]
set_option maxRecDepth 100000 in
theorem built_zrk : Try.prog.built 41 [] = some (ktV zKt none 0 0) := by kernel_rfl
theorem kt_zsize {k : Kt} {A : Option Addr} {m c : Nat} (h : k.Ok) : (ktV zKt none 0 0).size = (ktV k A m c).size := by rw [ktV_size h, ktV_size zKt_ok]
/-! ### pairs -/
structure Pr where
  ls : Bool
  la : List Int
  lport : Int
  rs : Bool
  ra : List Int
  rport : Int
structure Pr.Ok (p : Pr) : Prop where
  ll : p.la.length = 16
  lr : p.ra.length = 16
  yl : ∀ x ∈ p.la, Byte x
  yr : ∀ x ∈ p.ra, Byte x
  lport : 0 ≤ p.lport ∧ p.lport ≤ 65535
  rport : 0 ≤ p.rport ∧ p.rport ≤ 65535
def prL (p : Pr) : List Value := adrK p.ls p.la ++ (.int .u16 p.lport :: (adrK p.rs p.ra ++ [.int .u16 p.rport]))
def prV (p : Pr) : Array Value := (prL p).toArray
section
variable {p : Pr}
theorem prL_len (h : p.Ok) : (prL p).length = 36 := by
  unfold prL
  rw [List.length_append, List.length_cons, List.length_append, adrKn h.ll, adrKn h.lr]
  rfl
theorem pr_rest (h : p.Ok) (j : Nat) : (prL p)[17 + j]? = (Value.int .u16 p.lport :: (adrK p.rs p.ra ++ [.int .u16 p.rport]))[j]? := by
  have hl := adrKn (s := p.ls) h.ll
  unfold prL
  rw [List.getElem?_append_right (by omega), hl, Nat.add_sub_cancel_left]
theorem pr_lport (h : p.Ok) : (prL p)[17]? = some (.int .u16 p.lport) := pr_rest h 0
theorem pr_rem (h : p.Ok) {j : Nat} {v : Value} (hv : (adrK p.rs p.ra)[j]? = some v) : (prL p)[18 + j]? = some v := by
  rw [show 18 + j = 17 + (j + 1) by omega, pr_rest h, List.getElem?_cons_succ, List.getElem?_append_left (List.getElem?_eq_some_iff.1 hv).1]
  exact hv
theorem pr_rport (h : p.Ok) : (prL p)[35]? = some (.int .u16 p.rport) := by
  have hl := adrKn (s := p.rs) h.lr
  rw [show 35 = 17 + (17 + 1) from rfl, pr_rest h, List.getElem?_cons_succ, List.getElem?_append_right (by omega), hl]
  rfl
theorem pr_cell {w : World} {g : Nat} {T : TypeId} (R : w.heap[g]? = some (.cells (prV p) T (0, 0))) {j : Nat} {v : Value} (h : (prL p)[j]? = some v) : w.cell? ⟨g, j, none⟩ = some v := by
  rw [cell_of_row w g j _ T (0, 0) R]
  unfold prV
  rw [List.getElem?_toArray]
  exact h
theorem pr_info : (Try.prog.info? 30).map (·.size) = some 36 := by kernel_rfl
theorem prV_info (h : p.Ok) : (Try.prog.info? 30).map (·.size) = some (prV p).size := by unfold prV; rw [List.size_toArray, prL_len h]; exact pr_info
end
/-! ### over numbers -/
def algN (a : Int) : Int := if a = 1 then 20 else if a = 2 then 16 else 0
def portB (own p : Int) : Bool := decide (own = 0) || decide (own = p)
def mayB (k : Kt) (m : Nat) : Bool := decide (maskO k.s k.a k.len = some (k.s, k.a)) && (decide (0 < algN k.alg) && (decide (1 ≤ m) && decide (m ≤ 80)))
def govB (k : Kt) (p : Pr) : Bool := liesL p.rs p.ra k.s k.a k.len && (portB k.lp p.lport && portB k.rp p.rport)
def liesK (y x : Kt) : Bool := liesL y.s y.a x.s x.a x.len
def meetB (a : Kt) (m : Nat) (b : Kt) (m' : Nat) : Bool :=
  mayB a m && (mayB b m' && ((if a.len > b.len then liesK a b else liesK b a) && ((portB a.lp b.lp || decide (b.lp = 0)) && (portB a.rp b.rp || decide (b.rp = 0)))))
def sameKt (a b : Kt) : Bool := decide (a.n = b.n) && (decide (a.s = b.s ∧ a.a = b.a) && (decide (a.len = b.len) && (decide (a.lp = b.lp) && (decide (a.rp = b.rp) && (decide (a.si = b.si) && (decide (a.ri = b.ri) && (decide (a.alg = b.alg) && decide (a.opts = b.opts))))))))
theorem sameKt_iff {a b : Kt} : sameKt a b = true ↔ a = b := by
  unfold sameKt
  simp only [Bool.and_eq_true, decide_eq_true_iff]
  constructor
  · rintro ⟨h1, ⟨h2, h3⟩, h4, h5, h6, h7, h8, h9, h10⟩
    cases a; cases b
    simp only at h1 h2 h3 h4 h5 h6 h7 h8 h9 h10
    rw [h1, h2, h3, h4, h5, h6, h7, h8, h9, h10]
  · rintro rfl
    exact ⟨rfl, ⟨rfl, rfl⟩, rfl, rfl, rfl, rfl, rfl, rfl, rfl⟩
/-- a key tuple with its master key's bytes -/
abbrev Kp := Kt × List Int
def zKp : Kp := (zKt, [])
/-- a ring -/
structure Rg where
  last : Int
  l : List Kp
def clash (x k : Kp) : Bool := meetB x.1 x.2.length k.1 k.2.length && (decide (x.1.si = k.1.si) || decide (x.1.ri = k.1.ri))
def addErr (r : Rg) (k : Kp) : Int := if mayB k.1 k.2.length then (if r.l.any (fun x => clash x k) then 7 else if 32 ≤ r.l.length ∨ 2147483647 ≤ r.last then 5 else 0) else 1
def addR (r : Rg) (k : Kp) : Rg := if addErr r k = 0 then ⟨r.last + 1, r.l ++ [({ k.1 with n := r.last + 1 }, k.2)]⟩ else r
def addN (r : Rg) (k : Kp) : Int := if addErr r k = 0 then r.last + 1 else 0
def hasN (r : Rg) (n : Int) : Bool := r.l.any fun x => decide (x.1.n = n)
def dropErr (r : Rg) (n : Int) : Int := if hasN r n then 0 else 6
/-- the first of a number goes -/
def dropL (n : Int) : List Kp → List Kp
  | [] => []
  | x :: l => if x.1.n = n then l else x :: dropL n l
def dropR (r : Rg) (n : Int) : Rg := ⟨r.last, dropL n r.l⟩
def forL (r : Rg) (p : Pr) : List Kp := r.l.filter fun x => govB x.1 p
/-- the first one that .., or none -/
def pickP (l : List Kp) (f : Kp → Bool) (c : Int) : Kp × Int := match l.find? f with | some x => (x, 0) | none => (zKp, c)
def getP (r : Rg) (n : Int) : Kp × Int := pickP r.l (fun x => decide (x.1.n = n)) 6
def sendP (r : Rg) (p : Pr) (i : Int) : Kp × Int := pickP (forL r p) (fun x => decide (x.1.si = i)) 12
def getsP (r : Rg) (p : Pr) (i : Int) : Kp × Int := pickP (forL r p) (fun x => decide (x.1.ri = i)) 12
end Go.Proofs.Ytflfkhcbkhdahaa.mkC

/-
  Strings of bytes, compared.
-/
namespace Go.Proofs.Ytflfkhcbkhdahaa.adC
open Go.ChangeShapes Go.WideShapes Go.ChangeAt Go.RowKit
open Go.Proofs.Ytflfkhcbkhdahaa.memC Go.Proofs.Ytflfkhcbkhdahaa.genC
set_option linter.unusedVariables false
theorem str_eqb {xs ys : List Int} (hx : ∀ x ∈ xs, Byte x) (hy : ∀ x ∈ ys, Byte x) : ((strOfNums xs).toList == (strOfNums ys).toList) = (lexL xs ys == 0) := by
  rw [Lib.strOfNums_toList, Lib.strOfNums_toList]
  by_cases h : xs = ys
  · subst h
    rw [lexL_self]; simp
  · have h1 : lexL xs ys ≠ 0 := fun e => h (lexL_zero _ _ e)
    rw [beq_eq_false_iff_ne.2 h1]
    refine beq_eq_false_iff_ne.2 fun e => h1 ?_
    rw [← lexL_bytes xs ys hx hy, e, lexL_bytes ys ys hy hy]
    exact lexL_self ys
theorem seq_run {P : Program} {o : Oper} {a : Act} {w : World} {T : TypeId} {s x : Operand} {S S' : ByteArray} {R : TypeId} {q : Bool} (ho : o.op = .binOp .eql T s x R) (hs : a.eval s = .string S) (hx : a.eval x = .string S') (hq : (S.toList == S'.toList) = q) : (execOp a.eval o).run P w = .ok (.value (.bool q)) w := by
  unfold execOp
  rw [ho]
  simp only [hs, hx]
  go_simp
end Go.Proofs.Ytflfkhcbkhdahaa.adC
