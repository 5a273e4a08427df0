/-
  The walks of the statements of ring.
-/
import Derived.Test.YtfclegelcobdoaaRingD
import Derived.Deep.RegionHeld3
namespace Go.Proofs.Ytfclegelcobdoaa.ringC
open Go.ChangeShapes Go.WideShapes Go.ChangeAt Go.RowKit
open Go.Proofs.Ytfclegelcobdoaa.ringM
set_option linter.unusedVariables false

theorem longs_walk (a0 a1 : Int) (w : World) (h1 : 0 ≤ a0) (h2 : a0 ≤ 18446744073709551615) (h3 : 0 ≤ a1) (h4 : a1 ≤ 4294967295) :
    Calls Try.prog 5 #[.int .u64 a0, .int .u32 a1] w fun e w' => e = .returned (.bool true) ∧ Below w.heap.size w w' := by
  go_enter Try.func5, Try.ntmps5
  go_wp2_with (first
    | (go_at_call 23; refine (long_any _ _ _ h1 h2 h3 h4).mono ?_; rintro e w' ⟨rfl, rfl⟩)
    | (go_at_call 24; refine (longref_any _ _ _ h1 h2 h3 h4).mono ?_; rintro e w' ⟨rfl, rfl⟩)
    | (go_at_call 10; refine (alive_any _).mono ?_; rintro e w' ⟨rfl, hg⟩))
  go_ret
  exact ⟨rfl, hg⟩

theorem order_walk (a b : Int) (w : World) (h1 : 0 ≤ a) (h2 : a ≤ 4294967295) (h3 : 0 ≤ b) (h4 : b ≤ 4294967295) :
    Calls Try.prog 8 #[.int .u32 a, .int .u32 b] w fun e w' => e = .returned (.bool true) ∧ Below w.heap.size w w' := by
  by_cases c : a = b ∨ aZ a b = 2147483648
  · have d1 : bfB a b = false := by unfold bfB; rw [dZ_eq]; unfold aZ at c ⊢; simp; split <;> omega
    have d2 : bfB b a = false := by unfold bfB; rw [dZ_eq]; unfold aZ at c ⊢; simp; split <;> omega
    by_cases e : a = b
    · have e' : (a == b) = true := by simpa using e
      clear e c
      go_enter Try.func8, Try.ntmps8
      go_wp2_with (first
        | (go_at_call 13; refine (bf_any _ _ _ (by assumption) (by assumption) (by assumption) (by assumption)).mono ?_; rintro e w' ⟨rfl, rfl⟩)
        | (go_at_call 10; refine (alive_any _).mono ?_; rintro e w' ⟨rfl, hg⟩))
      go_ret
      exact ⟨rfl, hg⟩
    · have e' : (a == b) = false := by simpa using e
      have f : ((b - a) % 4294967296 == 2147483648) = true := by unfold aZ at c; simp; omega
      clear e c
      go_enter Try.func8, Try.ntmps8
      go_wp2_with (first
        | (go_at_call 13; refine (bf_any _ _ _ (by assumption) (by assumption) (by assumption) (by assumption)).mono ?_; rintro e w' ⟨rfl, rfl⟩)
        | (go_at_call 10; refine (alive_any _).mono ?_; rintro e w' ⟨rfl, hg⟩))
      go_ret
      exact ⟨rfl, hg⟩
  · have e' : (a == b) = false := by simp; omega
    have f : ((b - a) % 4294967296 == 2147483648) = false := by unfold aZ at c; simp; omega
    have d : bfB b a = !(bfB a b) := by unfold bfB; rw [dZ_eq, dZ_eq]; unfold aZ at c ⊢; rw [Bool.eq_iff_iff]; simp; split <;> split <;> omega
    clear c
    cases d1 : bfB a b
    all_goals
      rw [d1] at d
      go_enter Try.func8, Try.ntmps8
      go_wp2_with (first
        | (go_at_call 13; refine (bf_any _ _ _ (by assumption) (by assumption) (by assumption) (by assumption)).mono ?_; rintro e w' ⟨rfl, rfl⟩)
        | (go_at_call 10; refine (alive_any _).mono ?_; rintro e w' ⟨rfl, hg⟩))
      go_ret
      exact ⟨rfl, hg⟩
/-- what the draw of a statement over an array of two numbers keeps -/
theorem keep2 {w W0 W1 : World} {a b : Value} (hb : Below W0.heap.size W0 W1)
    (h : W0.cell? ⟨w.heap.size, 0, none⟩ = some a ∧ W0.cell? ⟨w.heap.size, 1, none⟩ = some b ∧ Below w.heap.size w W0 ∧ w.heap.size < W0.heap.size) :
    W1.cell? ⟨w.heap.size, 0, none⟩ = some a ∧ W1.cell? ⟨w.heap.size, 1, none⟩ = some b ∧ Below w.heap.size w W1 ∧ w.heap.size < W1.heap.size := by
  obtain ⟨h1, h2, h3, h4⟩ := h
  exact ⟨by rw [hb.cell h4]; exact h1, by rw [hb.cell h4]; exact h2, h3.trans (hb.mono (by omega)), by have := hb.size; omega⟩
theorem accepts_walk (a b c d : Int) (w : World) (h1 : 0 ≤ a) (h2 : a ≤ 4294967295) (h3 : 0 ≤ b) (h4 : b ≤ 4294967295) (h5 : 0 ≤ c) (h6 : c ≤ 4294967295) (h7 : 0 ≤ d) (h8 : d ≤ 4294967295) :
    Calls Try.prog 6 #[.agg #[.int .u32 a, .int .u32 b], .int .u32 c, .int .u32 d] w fun e w' => e = .returned (.bool true) ∧ Below w.heap.size w w' := by
  go_enter Try.func6, Try.ntmps6
  go_wp2_with fail
  go_region_held3 (fun w' => w'.cell? ⟨w.heap.size, 0, none⟩ = some (.int .u32 a) ∧ w'.cell? ⟨w.heap.size, 1, none⟩ = some (.int .u32 b) ∧ Below w.heap.size w w' ∧ w.heap.size < w'.heap.size)
    (first | exact ⟨by simp, by simp, ((Below.refl _ _).alloc (Nat.le_refl _) _).drew, by simp⟩ | exact keep2 hg (by assumption) | go_keep)
    (first
      | (go_at_call 25; refine (acc_any _ _ _ _ _ h1 h2 h3 h4 h5 h6 h7 h8).mono ?_; rintro e w' ⟨rfl, rfl⟩)
      | (go_at_call 26; refine (accref_any _ _ _ _ _ h1 h2 h3 h4 h5 h6 h7 h8).mono ?_; rintro e w' ⟨rfl, rfl⟩)
      | (go_at_call 10; refine (alive_any _).mono ?_; rintro e w' ⟨rfl, hg⟩))
  go_wp2
  go_ret
  exact ⟨rfl, And.left (And.right (And.right (by assumption)))⟩
theorem u64_wrap (x : Int) : IntKind.u64.wrap x = x % 18446744073709551616 := by simp [IntKind.wrap, IntKind.bits, IntKind.signed]
theorem lg_back (n d : Int) (h1 : 0 ≤ n) (h2 : n ≤ 18446744073709551615) (h3 : -2147483648 < d) (h4 : d ≤ 2147483647) (h5 : 0 ≤ n + d) (h6 : n + d ≤ 18446744073709551615) : lgZ (n + d) (n % 4294967296) = n := by
  have e : dZ ((n + d) % 4294967296) (n % 4294967296) = -d := by
    rw [dZ_eq]; unfold aZ; split <;> omega
  unfold lgZ; rw [e]
  split
  · omega
  · split <;> omega
theorem back_walk (n d : Int) (w : World) (h1 : 0 ≤ n) (h2 : n ≤ 18446744073709551615) (h3 : -2147483648 ≤ d) (h4 : d ≤ 2147483647) :
    Calls Try.prog 9 #[.int .u64 n, .int .i32 d] w fun e w' => e = .returned (.bool true) ∧ Below w.heap.size w w' := by
  have L0 := lg_back n 0 h1 h2 (by omega) (by omega) (by omega) (by omega)
  rw [Int.add_zero] at L0
  by_cases c0 : d = -2147483648
  · subst c0
    go_enter Try.func9, Try.ntmps9
    go_wp2_with (go_at_call 10; refine (alive_any _).mono ?_; rintro e w' ⟨rfl, hg⟩)
    go_ret
    exact ⟨rfl, hg⟩
  have d0 : (d == -2147483648) = false := by simpa using c0
  have L1 := lg_back n d h1 h2 (by omega) h4
  by_cases cp : 0 ≤ d
  · by_cases co : n + d ≤ 18446744073709551615
    · have L1 := L1 (by omega) (by omega)
      clear c0
      go_enter Try.func9, Try.ntmps9
      go_wp2_with (first
        | (go_at_call 23; refine (long_any _ _ _ (by omega) (by omega) (by omega) (by omega)).mono ?_; rintro e w' ⟨rfl, rfl⟩)
        | (go_at_call 10; refine (alive_any _).mono ?_; rintro e w' ⟨rfl, hg⟩))
      all_goals
        go_ret
        exact ⟨rfl, by assumption⟩
    · obtain ⟨V, hV⟩ : ∃ V, V = n + d - 18446744073709551616 := ⟨_, rfl⟩
      have e2 : IntKind.u64.wrap (n + d) = V := by rw [u64_wrap]; omega
      have l1 : V < n := by omega
      have l2 : 0 < d := by omega
      clear hV co c0 L1
      go_enter Try.func9, Try.ntmps9
      go_wp2_with (go_at_call 10; refine (alive_any _).mono ?_; rintro e w' ⟨rfl, hg⟩)
      go_ret
      exact ⟨rfl, hg⟩
  · by_cases co : 0 ≤ n + d
    · have L1 := L1 (by omega) (by omega)
      obtain ⟨V, hV⟩ : ∃ V, V = n + d := ⟨_, rfl⟩
      rw [← hV] at L1
      have e2 : IntKind.u64.wrap (n + IntKind.u64.wrap d) = V := by rw [u64_wrap, u64_wrap]; omega
      have l1 : V < n := by omega
      have l2 : 0 ≤ V := by omega
      clear hV co c0
      go_enter Try.func9, Try.ntmps9
      go_wp2_with (first
        | (go_at_call 23; refine (long_any _ _ _ (by omega) (by omega) (by omega) (by omega)).mono ?_; rintro e w' ⟨rfl, rfl⟩)
        | (go_at_call 10; refine (alive_any _).mono ?_; rintro e w' ⟨rfl, hg⟩))
      go_ret
      exact ⟨rfl, hg⟩
    · obtain ⟨V, hV⟩ : ∃ V, V = n + d + 18446744073709551616 := ⟨_, rfl⟩
      have e2 : IntKind.u64.wrap (n + IntKind.u64.wrap d) = V := by rw [u64_wrap, u64_wrap]; omega
      have l1 : n < V := by omega
      clear hV co c0 L1
      go_enter Try.func9, Try.ntmps9
      go_wp2_with (go_at_call 10; refine (alive_any _).mono ?_; rintro e w' ⟨rfl, hg⟩)
      go_ret
      exact ⟨rfl, hg⟩
theorem diffs_nil (a b : Int) (s : Option Addr) (cap : Nat) (w : World) (h1 : 0 ≤ a) (h2 : a ≤ 4294967295) (h3 : 0 ≤ b) (h4 : b ≤ 4294967295) :
    Calls Try.prog 3 #[.int .u32 a, .int .u32 b, .slice s 0 cap] w fun e w' => e = .returned (.bool true) ∧ Below w.heap.size w w' := by
  go_enter Try.func3, Try.ntmps3
  go_wp2_with (first
    | (go_at_call 11; refine (diff_any _ _ _ h1 h2 h3 h4).mono ?_; rintro e w' ⟨rfl, rfl⟩)
    | (go_at_call 12; refine (dref_any _ _ _ h1 h2 h3 h4).mono ?_; rintro e w' ⟨rfl, rfl⟩)
    | (go_at_call 13; refine (bf_any _ _ _ h1 h2 h3 h4).mono ?_; rintro e w' ⟨rfl, rfl⟩)
    | (go_at_call 14; refine (bfref_any _ _ _ h1 h2 h3 h4).mono ?_; rintro e w' ⟨rfl, rfl⟩)
    | (go_at_call 15; refine (max_nil _ _ _ _).mono ?_; rintro e w' ⟨rfl, rfl⟩)
    | (go_at_call 16; refine (maxref_nil _ _ _ _).mono ?_; rintro e w' ⟨rfl, rfl⟩)
    | (go_at_call 10; refine (alive_any _).mono ?_; rintro e w' ⟨rfl, hg⟩))
  go_ret
  exact ⟨rfl, hg⟩
theorem diffs_row (a b : Int) (k off len cap : Nat) (zs : List Int) (w : World) (h1 : 0 ≤ a) (h2 : a ≤ 4294967295) (h3 : 0 ≤ b) (h4 : b ≤ 4294967295) (hl : zs.length = len) (hm : len ≤ maxLen)
    (hc : ∀ i, i < len → w.cell? ⟨k, off + i, none⟩ = some (.int .u32 (zs.getD i 0))) (hz : ∀ x ∈ zs, 0 ≤ x ∧ x ≤ 4294967295) :
    Calls Try.prog 3 #[.int .u32 a, .int .u32 b, .slice (some ⟨k, off, none⟩) len cap] w fun e w' => e = .returned (.bool true) ∧ Below w.heap.size w w' := by
  have HC := Lib.hid hc
  have HZ := Lib.hid hz
  have HL := Lib.hid hl
  have HM := Lib.hid hm
  unfold maxLen at hm
  clear hc hz hl
  by_cases c : 1000 < len
  all_goals
    go_enter Try.func3, Try.ntmps3
    go_wp2_with (first
      | (go_at_call 11; refine (diff_any _ _ _ h1 h2 h3 h4).mono ?_; rintro e w' ⟨rfl, rfl⟩)
      | (go_at_call 12; refine (dref_any _ _ _ h1 h2 h3 h4).mono ?_; rintro e w' ⟨rfl, rfl⟩)
      | (go_at_call 13; refine (bf_any _ _ _ h1 h2 h3 h4).mono ?_; rintro e w' ⟨rfl, rfl⟩)
      | (go_at_call 14; refine (bfref_any _ _ _ h1 h2 h3 h4).mono ?_; rintro e w' ⟨rfl, rfl⟩)
      | (go_at_call 15; refine (max_row _ _ _ _ _ _ _ h1 h2 HL.out HM.out HC.out HZ.out).mono ?_; rintro e w' ⟨rfl, rfl⟩)
      | (go_at_call 16; refine (maxref_row _ _ _ _ _ _ _ h1 h2 HL.out HM.out HC.out HZ.out).mono ?_; rintro e w' ⟨rfl, rfl⟩)
      | (go_at_call 10; refine (alive_any _).mono ?_; rintro e w' ⟨rfl, hg⟩))
    go_ret
    exact ⟨rfl, hg⟩
/-- what the draw of a statement over three runs keeps -/
theorem keep3 {w W0 W1 : World} {a b c d e f : Value} (hb : Below W0.heap.size W0 W1)
    (h : W0.cell? ⟨w.heap.size, 0, none⟩ = some a ∧ W0.cell? ⟨w.heap.size, 1, none⟩ = some b ∧ W0.cell? ⟨w.heap.size + 1, 0, none⟩ = some c ∧ W0.cell? ⟨w.heap.size + 1, 1, none⟩ = some d ∧ W0.cell? ⟨w.heap.size + 1 + 1, 0, none⟩ = some e ∧ W0.cell? ⟨w.heap.size + 1 + 1, 1, none⟩ = some f ∧ Below w.heap.size w W0 ∧ w.heap.size + 2 < W0.heap.size) :
    W1.cell? ⟨w.heap.size, 0, none⟩ = some a ∧ W1.cell? ⟨w.heap.size, 1, none⟩ = some b ∧ W1.cell? ⟨w.heap.size + 1, 0, none⟩ = some c ∧ W1.cell? ⟨w.heap.size + 1, 1, none⟩ = some d ∧ W1.cell? ⟨w.heap.size + 1 + 1, 0, none⟩ = some e ∧ W1.cell? ⟨w.heap.size + 1 + 1, 1, none⟩ = some f ∧ Below w.heap.size w W1 ∧ w.heap.size + 2 < W1.heap.size := by
  obtain ⟨h1, h2, h3, h4, h5, h6, h7, h8⟩ := h
  exact ⟨by rw [hb.cell (by simp; omega)]; exact h1, by rw [hb.cell (by simp; omega)]; exact h2, by rw [hb.cell (by simp; omega)]; exact h3, by rw [hb.cell (by simp; omega)]; exact h4, by rw [hb.cell (by simp; omega)]; exact h5, by rw [hb.cell (by simp; omega)]; exact h6, h7.trans (hb.mono (by omega)), by have := hb.size; omega⟩
theorem old_cell {w : World} {p : Addr} {v : Value} (o : Obj) (h : w.cell? p = some v) : (w.alloc o).cell? p = some v := by
  rw [World.cell?_alloc_some w p o (by rw [h]; rfl)]; exact h
theorem new_cell (w : World) (C : Array Value) (t : TypeId) (n j : Nat) (hn : n = w.heap.size) : (w.alloc (.cells C t)).cell? ⟨n, j, none⟩ = C[j]? := by
  subst hn; exact World.cell?_alloc_mark w C t _ j
/-- three new runs: their cells -/
theorem three (w : World) (x0 x1 y0 y1 z0 z1 : Value) (t : TypeId) : ∀ W, W = ((((w.alloc (.cells #[x0, x1] t)).alloc (.cells #[y0, y1] t)).alloc (.cells #[z0, z1] t))).drew →
    W.cell? ⟨w.heap.size, 0, none⟩ = some x0 ∧ W.cell? ⟨w.heap.size, 1, none⟩ = some x1 ∧ W.cell? ⟨w.heap.size + 1, 0, none⟩ = some y0 ∧ W.cell? ⟨w.heap.size + 1, 1, none⟩ = some y1 ∧ W.cell? ⟨w.heap.size + 1 + 1, 0, none⟩ = some z0 ∧ W.cell? ⟨w.heap.size + 1 + 1, 1, none⟩ = some z1 ∧ Below w.heap.size w W ∧ w.heap.size + 2 < W.heap.size := by
  rintro W rfl
  refine ⟨?_, ?_, ?_, ?_, ?_, ?_, ((((Below.refl _ _).alloc (Nat.le_refl _) _).alloc (by simp) _).alloc (by simp; omega) _).drew, by simp⟩
  · exact old_cell _ (old_cell _ (new_cell _ _ _ _ _ rfl))
  · exact old_cell _ (old_cell _ (new_cell _ _ _ _ _ rfl))
  · exact old_cell _ (new_cell _ _ _ _ _ (by simp))
  · exact old_cell _ (new_cell _ _ _ _ _ (by simp))
  · exact new_cell _ _ _ _ _ (by simp)
  · exact new_cell _ _ _ _ _ (by simp)
set_option maxHeartbeats 1600000 in
theorem windows_walk (n a b : Int) (w : World) (h1 : 0 ≤ n) (h2 : n ≤ 4294967295) (h3 : 0 ≤ a) (h4 : a ≤ 4294967295) (h5 : 0 ≤ b) (h6 : b ≤ 4294967295) :
    Calls Try.prog 4 #[.int .u32 n, .int .u32 a, .int .u32 b] w fun e w' => e = .returned (.bool true) ∧ Below w.heap.size w w' := by
  go_enter Try.func4, Try.ntmps4
  go_wp2_with fail
  go_region_held3 (fun w' => w'.cell? ⟨w.heap.size, 0, none⟩ = some (.int .u32 n) ∧ w'.cell? ⟨w.heap.size, 1, none⟩ = some (.int .u32 a) ∧ w'.cell? ⟨w.heap.size + 1, 0, none⟩ = some (.int .u32 b) ∧ w'.cell? ⟨w.heap.size + 1, 1, none⟩ = some (.int .u32 ((b + 1000) % 4294967296)) ∧ w'.cell? ⟨w.heap.size + 1 + 1, 0, none⟩ = some (.int .u32 a) ∧ w'.cell? ⟨w.heap.size + 1 + 1, 1, none⟩ = some (.int .u32 b) ∧ Below w.heap.size w w' ∧ w.heap.size + 2 < w'.heap.size)
    (first | exact three w _ _ _ _ _ _ _ _ rfl | exact keep3 hg (by assumption) | go_keep)
    (first
      | (go_at_call 17; refine (in_any _ _ _ _ h1 h2 h3 h4).mono ?_; rintro e w' ⟨rfl, rfl⟩)
      | (go_at_call 18; refine (inref_any _ _ _ _ h1 h2 h3 h4 h5 h6).mono ?_; rintro e w' ⟨rfl, rfl⟩)
      | (go_at_call 19; refine (bt_any _ _ _ _ h1 h2 h3 h4 h5 h6).mono ?_; rintro e w' ⟨rfl, rfl⟩)
      | (go_at_call 20; refine (btref_any _ _ _ _ h1 h2 h3 h4 h5 h6).mono ?_; rintro e w' ⟨rfl, rfl⟩)
      | (go_at_call 21; refine (ovl_any _ _ _ _ _ (by omega) (by omega) (by omega) (by omega) (by omega) (by omega) (by omega) (by omega)).mono ?_; rintro e w' ⟨rfl, hg⟩)
      | (go_at_call 22; refine (ovlref_any _ _ _ _ _ (by omega) (by omega) (by omega) (by omega) (by omega) (by omega) (by omega) (by omega)).mono ?_; rintro e w' ⟨rfl, hg⟩)
      | (go_at_call 10; refine (alive_any _).mono ?_; rintro e w' ⟨rfl, hg⟩))
  go_wp2
  go_ret
  exact ⟨rfl, And.left (And.right (And.right (And.right (And.right (And.right (And.right (by assumption)))))))⟩
end Go.Proofs.Ytfclegelcobdoaa.ringC
