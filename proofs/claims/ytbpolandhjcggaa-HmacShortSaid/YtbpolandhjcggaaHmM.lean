/-
  HMAC over numbers.
-/
import Derived.Test.YtbpolandhjcggaaShaC
import Derived.Test.YtbpolandhjcggaaBut
namespace Go.Proofs.Ytbpolandhjcggaa.hmM
open Go.ChangeShapes Go.WideShapes Go.ChangeAt Go.RowKit
open Go.Proofs.Ytbpolandhjcggaa.memC Go.Proofs.Ytbpolandhjcggaa.genC Go.Proofs.Ytbpolandhjcggaa.shaM Go.Proofs.Ytbpolandhjcggaa.shaC
set_option linter.unusedVariables false
def nz (n : Nat) : List Int := List.replicate n 0
theorem nz_byte (n : Nat) : ∀ x ∈ nz n, Byte x := fun x hx => by rw [List.eq_of_mem_replicate hx]; unfold Byte; omega
theorem sha_len (bs : List Int) : (shaL bs).length = 20 := by unfold shaL; simp
theorem sha_byte (bs : List Int) : ∀ x ∈ shaL bs, Byte x := by
  intro x hx
  unfold shaL outB at hx
  obtain ⟨i, _, rfl⟩ := List.mem_map.1 hx
  unfold Byte
  generalize List.getD _ _ _ / 2 ^ _ = y
  omega
/-- the key, or its digest -/
def keyL (k : List Int) : List Int := if 64 < k.length then shaL k else k
theorem key_len (k : List Int) : (keyL k).length ≤ 64 := by unfold keyL; split <;> first | (rw [sha_len]; decide) | omega
theorem key_byte {k : List Int} (h : ∀ x ∈ k, Byte x) : ∀ x ∈ keyL k, Byte x := by unfold keyL; split <;> first | exact sha_byte k | exact h
/-- a key's block -/
def blkL (k : List Int) : List Int := keyL k ++ nz (64 - (keyL k).length)
theorem blk_len (k : List Int) : (blkL k).length = 64 := by have := key_len k; unfold blkL nz; rw [List.length_append, List.length_replicate]; omega
theorem blk_byte {k : List Int} (h : ∀ x ∈ k, Byte x) : ∀ x ∈ blkL k, Byte x := fun x hx => (List.mem_append.1 hx).elim (key_byte h x) (nz_byte _ x)
/-- .. each byte of which is turned -/
def turnL (k : List Int) (y : Int) : List Int := (blkL k).map fun x => bits .xor .u8 x y
theorem turn_len (k : List Int) (y : Int) : (turnL k y).length = 64 := by unfold turnL; rw [List.length_map, blk_len]
theorem turn_byte (k : List Int) (y : Int) : ∀ x ∈ turnL k y, Byte x := by
  intro x hx
  obtain ⟨z, _, rfl⟩ := List.mem_map.1 hx
  exact bounds_u8 (wf_bits .xor .u8 z y)
/-- the MAC -/
def inL (k m : List Int) : List Int := shaL (turnL k 54 ++ m)
def macL (k m : List Int) : List Int := shaL (turnL k 92 ++ inL k m)
theorem mac_len (k m : List Int) : (macL k m).length = 20 := sha_len _
def shortL (k m : List Int) : List Int := (macL k m).take 12
/-- the first j numbers, the others 0 -/
def partL (xs : List Int) (n j : Nat) : List Int := xs.take j ++ nz (n - j)
theorem part_len {xs : List Int} {n j : Nat} (h : j ≤ xs.length) (hn : j ≤ n) : (partL xs n j).length = n := by unfold partL nz; rw [List.length_append, List.length_take, List.length_replicate]; omega
theorem part_set {xs : List Int} {n j : Nat} (h : j < xs.length) (hn : j < n) : (partL xs n j).set j (xs.getD j 0) = partL xs n (j + 1) := by
  unfold partL nz
  have e : n - j = (n - (j + 1)) + 1 := by omega
  rw [List.set_append_right _ _ (by rw [List.length_take]; omega), List.length_take, show j - min j xs.length = 0 by omega, e, List.replicate_succ, List.set_cons_zero, List.take_succ_eq_append_getElem h, List.append_assoc,
    List.getD_eq_getElem?_getD, List.getElem?_eq_getElem h]
  rfl
theorem part_zero (xs : List Int) (n : Nat) : partL xs n 0 = nz n := by unfold partL; simp
theorem part_all {xs : List Int} {n : Nat} : partL xs n xs.length = xs ++ nz (n - xs.length) := by unfold partL; rw [List.take_of_length_le (Nat.le_refl _)]
end Go.Proofs.Ytbpolandhjcggaa.hmM
