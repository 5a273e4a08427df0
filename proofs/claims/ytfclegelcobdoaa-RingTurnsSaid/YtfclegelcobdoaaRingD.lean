/-
  Contracts, more: Max, and what stands in each statement beside.
-/
import Derived.Test.YtfclegelcobdoaaRingC
import Derived.IntWalk
namespace Go.Proofs.Ytfclegelcobdoaa.ringC
open Go.ChangeShapes Go.WideShapes Go.ChangeAt Go.RowKit
open Go.Proofs.Ytfclegelcobdoaa.ringM
set_option linter.unusedVariables false

theorem val_int {k : IntKind} {a b : Int} (h : a = b) : Value.int k a = .int k b := by rw [h]
theorem take_snoc (zs : List Int) (k : Nat) (h : k < zs.length) : zs.take (k + 1) = zs.take k ++ [zs.getD k 0] := by
  rw [List.take_succ_eq_append_getElem h]; simp [List.getD_eq_getElem?_getD, h]
/-- a slice of numbers that lies in memory, not nil -/
theorem max_row (n : Int) (b off len cap : Nat) (zs : List Int) (w : World) (h1 : 0 ≤ n) (h2 : n ≤ 4294967295) (hl : zs.length = len) (hm : len ≤ maxLen)
    (hc : ∀ i, i < len → w.cell? ⟨b, off + i, none⟩ = some (.int .u32 (zs.getD i 0))) (hz : ∀ x ∈ zs, 0 ≤ x ∧ x ≤ 4294967295) :
    Calls Try.prog 15 #[.int .u32 n, .slice (some ⟨b, off, none⟩) len cap] w fun e w' => e = .returned (.int .u32 (mxZ n zs)) ∧ w = w' := by
  unfold maxLen at hm
  have HC := Lib.hid hc
  have HZ := Lib.hid hz
  clear hc hz
  go_enter Try.func15, Try.ntmps15
  go_wp2
  go_loop [5, 11] (fun t i => ∃ k : Nat, k ≤ len ∧ i = .int .i64 k ∧ t = .int .u32 (mxZ n (zs.take k))) (fun _ i => len - (intOf i).toNat)
  case atStart => exact ⟨0, Nat.zero_le _, rfl, rfl⟩
  case round =>
    obtain ⟨k, hk, rfl, rfl⟩ := hrel
    by_cases hlt : k < len
    · have hcell := HC.out k hlt
      have hts := mxZ_snoc n (zs.take k) (zs.getD k 0)
      rw [← take_snoc zs k (by omega)] at hts
      obtain ⟨b1, b2⟩ := mxZ_bd n (zs.take k) ⟨h1, h2⟩ (fun x hx => HZ.out x (List.mem_of_mem_take hx))
      have hmem : zs.getD k 0 ∈ zs := by rw [List.getD_eq_getElem?_getD, List.getElem?_eq_getElem (by omega)]; exact List.getElem_mem _
      obtain ⟨b3, b4⟩ := HZ.out _ hmem
      clear hmem
      generalize zs.getD k 0 = z at hts hcell b3 b4
      generalize mxZ n (zs.take k) = m at hts b1 b2 ⊢
      have HT := Lib.hid hts
      clear hts
      cases hb : bfB m z
      all_goals
        go_wp2_with (go_at_call 13; refine (bf_any _ _ _ b1 b2 b3 b4).mono ?_; rintro e w' ⟨rfl, rfl⟩)
        go_round
        case rel => exact ⟨k + 1, by omega, by go_num, val_int (by rw [HT.out, hb]; rfl)⟩
        case measure => simp [intOf]; omega
    · have : k = len := by omega
      subst this
      go_wp2
      go_ret
      exact ⟨ret_int (by rw [List.take_of_length_le (by omega)]), rfl⟩
theorem max_nil (n : Int) (a : Option Addr) (cap : Nat) (w : World) :
    Calls Try.prog 15 #[.int .u32 n, .slice a 0 cap] w fun e w' => e = .returned (.int .u32 n) ∧ w = w' := by
  go_enter Try.func15, Try.ntmps15
  go_wp2
  go_loop [5, 11] (fun t i => i = .int .i64 0 ∧ t = .int .u32 n) (fun _ i => 0)
  case atStart => exact ⟨rfl, rfl⟩
  case round =>
    obtain ⟨rfl, rfl⟩ := hrel
    go_wp2
    go_ret
    exact ⟨rfl, rfl⟩
/-- a slice of numbers that lies in memory, not nil -/
theorem maxref_row (n : Int) (b off len cap : Nat) (zs : List Int) (w : World) (h1 : 0 ≤ n) (h2 : n ≤ 4294967295) (hl : zs.length = len) (hm : len ≤ maxLen)
    (hc : ∀ i, i < len → w.cell? ⟨b, off + i, none⟩ = some (.int .u32 (zs.getD i 0))) (hz : ∀ x ∈ zs, 0 ≤ x ∧ x ≤ 4294967295) :
    Calls Try.prog 16 #[.int .u32 n, .slice (some ⟨b, off, none⟩) len cap] w fun e w' => e = .returned (.int .u32 (mxZ n zs)) ∧ w = w' := by
  unfold maxLen at hm
  have HC := Lib.hid hc
  have HZ := Lib.hid hz
  clear hc hz
  go_enter Try.func16, Try.ntmps16
  go_wp2
  go_loop [5, 6] (fun t i => ∃ k : Nat, k ≤ len ∧ i = .int .i64 k ∧ t = .int .u32 (mxZ n (zs.take k))) (fun _ i => len - (intOf i).toNat)
  case atStart => exact ⟨0, Nat.zero_le _, rfl, rfl⟩
  case round =>
    obtain ⟨k, hk, rfl, rfl⟩ := hrel
    by_cases hlt : k < len
    · have hcell := HC.out k hlt
      have hts := mxZ_snoc n (zs.take k) (zs.getD k 0)
      rw [← take_snoc zs k (by omega)] at hts
      obtain ⟨b1, b2⟩ := mxZ_bd n (zs.take k) ⟨h1, h2⟩ (fun x hx => HZ.out x (List.mem_of_mem_take hx))
      have hmem : zs.getD k 0 ∈ zs := by rw [List.getD_eq_getElem?_getD, List.getElem?_eq_getElem (by omega)]; exact List.getElem_mem _
      obtain ⟨b3, b4⟩ := HZ.out _ hmem
      clear hmem
      generalize zs.getD k 0 = z at hts hcell b3 b4
      generalize mxZ n (zs.take k) = m at hts b1 b2 ⊢
      have HT := Lib.hid hts
      clear hts
      cases hb : bfB m z
      all_goals
        go_wp2_with (go_at_call 14; refine (bfref_any _ _ _ b1 b2 b3 b4).mono ?_; rintro e w' ⟨rfl, rfl⟩)
        go_round
        case rel => exact ⟨k + 1, by omega, by go_num, val_int (by rw [HT.out, hb]; rfl)⟩
        case measure => simp [intOf]; omega
    · have : k = len := by omega
      subst this
      go_wp2
      go_ret
      exact ⟨ret_int (by rw [List.take_of_length_le (by omega)]), rfl⟩
theorem maxref_nil (n : Int) (a : Option Addr) (cap : Nat) (w : World) :
    Calls Try.prog 16 #[.int .u32 n, .slice a 0 cap] w fun e w' => e = .returned (.int .u32 n) ∧ w = w' := by
  go_enter Try.func16, Try.ntmps16
  go_wp2
  go_loop [5, 6] (fun t i => i = .int .i64 0 ∧ t = .int .u32 n) (fun _ i => 0)
  case atStart => exact ⟨rfl, rfl⟩
  case round =>
    obtain ⟨rfl, rfl⟩ := hrel
    go_wp2
    go_ret
    exact ⟨rfl, rfl⟩

theorem two_row (w : World) (x y : Int) (t : TypeId) (i : Nat) (h : i < 2) : (w.alloc (.cells #[.int .u32 x, .int .u32 y] t)).cell? ⟨w.heap.size, 0 + i, none⟩ = some (.int .u32 ([x, y].getD i 0)) := by
  match i, h with
  | 0, _ => simp
  | 1, _ => simp
/-- what every statement asks beside: numbers go round -/
theorem alive_any (w : World) : Calls Try.prog 10 #[] w fun e w' => e = .returned (.bool true) ∧ Below w.heap.size w w' := by
  have e1 : dZ 4294967295 1 = 2 := by decide +kernel
  have e2 : lgZ 4294967301 4294967295 = 4294967295 := by decide +kernel
  have e3 : mxZ 4294967295 [3, 1] = 3 := by decide +kernel
  have e4 : acB 5 10 4 2 = true := by decide +kernel
  go_enter Try.func10, Try.ntmps10
  go_wp2_with (first
    | (go_at_call 11; refine (diff_any _ _ _ (by omega) (by omega) (by omega) (by omega)).mono ?_; rintro e w' ⟨rfl, rfl⟩)
    | (go_at_call 23; refine (long_any _ _ _ (by omega) (by omega) (by omega) (by omega)).mono ?_; rintro e w' ⟨rfl, rfl⟩)
    | (go_at_call 15; refine (max_row _ _ _ _ _ [3, 1] _ (by omega) (by omega) rfl (by simp [maxLen]) (two_row w 3 1 _) (by simp)).mono ?_; rintro e w' ⟨rfl, rfl⟩)
    | (go_at_call 25; refine (acc_any _ _ _ _ _ (by omega) (by omega) (by omega) (by omega) (by omega) (by omega) (by omega) (by omega)).mono ?_; rintro e w' ⟨rfl, rfl⟩))
  go_ret
  exact ⟨rfl, (Below.refl _ _).alloc (Nat.le_refl _) _⟩
end Go.Proofs.Ytfclegelcobdoaa.ringC
