/-
  The walk of the first statement.
-/
import Derived.Test.YtbpolandhjcggaaHmI
namespace Go.Proofs.Ytbpolandhjcggaa.hmC
open Go.ChangeShapes Go.WideShapes Go.ChangeAt Go.RowKit
open Go.Proofs.Ytbpolandhjcggaa.memC Go.Proofs.Ytbpolandhjcggaa.genC Go.Proofs.Ytbpolandhjcggaa.shaM Go.Proofs.Ytbpolandhjcggaa.shaC Go.Proofs.Ytbpolandhjcggaa.shaN Go.Proofs.Ytbpolandhjcggaa.butC Go.Proofs.Ytbpolandhjcggaa.hmM Go.Proofs.Ytbpolandhjcggaa.freeC Go.Proofs.Ytbpolandhjcggaa.partsC
set_option linter.unusedVariables false
/-- a slice of bytes that came in, not too long -/
structure Key (w : World) (A : Option Addr) (n c : Nat) (k : List Int) : Prop where
  nums : Nums .u8 w w.heap.size A n k
  byte : ∀ x ∈ k, Byte x
  cap : n ≤ c
  max : c ≤ 9223372036854775807
section
variable {w w' : World} {A A2 : Option Addr} {n c n2 c2 : Nat} {k msg : List Int}
theorem Key.below (h : Key w A n c k) (B : Below w.heap.size w w') : Key w' A n c k := ⟨(h.nums.below B).more B.size, h.byte, h.cap, h.max⟩
theorem Key.alloc (h : Key w A n c k) (o : Obj) : Key (w.alloc o) A n c k := h.below (alloc_below w o)
theorem Key.partAt (h : Key w A n c k) (hn : n ≤ 10000) : PartAt w w.heap.size ⟨A, n, c, k⟩ := ⟨h.nums, hn, h.byte, h.cap, h.max⟩
/-- Of of a key and one part that the call lays -/
theorem mac1 (h : Key w A n c k) (h2 : Key w A2 n2 c2 msg) (hn : n ≤ 10000) (hn2 : n2 ≤ 10000) :
    Calls Try.prog 9 #[.slice A n c, .slice (some ⟨w.heap.size, 0, none⟩) 1 1] (w.alloc (.cells #[.slice A2 n2 c2] 22)) fun e w' => e = .returned (.agg (vecA (macL k msg))) ∧ Below w.heap.size w w' :=
  (cof_any A n c k _ 1 1 _ _ (h.alloc _).nums h.byte hn h.cap h.max (parts1 (h2.partAt hn2) 22) rfl (by decide)).mono fun e w' h3 => ⟨by have := h3.1; rw [cat1] at this; exact this, (alloc_below w _).trans (h3.2.mono (alloc_below w (.cells #[.slice A2 n2 c2] 22)).size)⟩
theorem short1 (h : Key w A n c k) (h2 : Key w A2 n2 c2 msg) (hn : n ≤ 10000) (hn2 : n2 ≤ 10000) :
    Calls Try.prog 11 #[.slice A n c, .slice (some ⟨w.heap.size, 0, none⟩) 1 1] (w.alloc (.cells #[.slice A2 n2 c2] 22)) fun e w' => e = .returned (.agg (vecA (shortL k msg))) ∧ Below w.heap.size w w' :=
  (cshort_any A n c k _ 1 1 _ _ (h.alloc _).nums h.byte hn h.cap h.max (parts1 (h2.partAt hn2) 22) rfl (by decide)).mono fun e w' h3 => ⟨by have := h3.1; rw [cat1] at this; exact this, (alloc_below w _).trans (h3.2.mono (alloc_below w (.cells #[.slice A2 n2 c2] 22)).size)⟩
end
theorem vec_short (k msg : List Int) : (shortL k msg).length = 12 := short_len k msg
theorem hmacof_long (A : Option Addr) (n c : Nat) (A2 : Option Addr) (n2 c2 : Nat) (w : World) (hn : n ≤ 9223372036854775807) (hn2 : n2 ≤ 9223372036854775807) (h : 1000 < n ∨ 1000 < n2) : Calls Try.prog 3 #[.slice A n c, .slice A2 n2 c2] w (AliveRet w) := by
  by_cases h1 : 1000 < n
  · have d1 : decide (1000 < n) = true := by simpa using h1
    clear h h1
    go_enter Try.func3, Try.ntmps3
    go_wp2_with (first
      | (go_at_call 7; (with_reducible refine (long_any A _ _ _ hn).mono ?_); rintro e w' ⟨rfl, rfl⟩)
      | (go_at_call 8; refine (alive_any _).mono ?_; rintro e w' ⟨rfl, B⟩))
    go_ret
    exact ⟨rfl, B⟩
  · have d1 : decide (1000 < n) = false := by simpa using h1
    have d2 : decide (1000 < n2) = true := by simp; omega
    clear h h1
    go_enter Try.func3, Try.ntmps3
    go_wp2_with (first
      | (go_at_call 7; (with_reducible refine (long_any A n c _ hn).mono ?_); rintro e w' ⟨rfl, rfl⟩)
      | (go_at_call 7; (with_reducible refine (long_any A2 n2 c2 _ hn2).mono ?_); rintro e w' ⟨rfl, rfl⟩)
      | (go_at_call 8; refine (alive_any _).mono ?_; rintro e w' ⟨rfl, B⟩))
    go_ret
    exact ⟨rfl, B⟩
set_option maxRecDepth 100000 in
set_option maxHeartbeats 1000000 in
theorem hmacof_short (A : Option Addr) (n c : Nat) (k : List Int) (A2 : Option Addr) (n2 c2 : Nat) (msg : List Int) (w : World) (hk : Key w A n c k) (hm : Key w A2 n2 c2 msg) (h : n ≤ 1000) (h2 : n2 ≤ 1000) :
    Calls Try.prog 3 #[.slice A n c, .slice A2 n2 c2] w (AliveRet w) := by
  have d1 : decide (1000 < n) = false := by simpa using h
  have d2 : decide (1000 < n2) = false := by simpa using h2
  have O1 := Lib.hid (fun (w' : World) (B : Below w.heap.size w w') => (mac1 (hk.below B) (hm.below B) (by omega) (by omega)).mono fun e w'' h => (show e = .returned (.agg (vecA (macL k msg))) ∧ Below w.heap.size w w'' from ⟨h.1, B.trans (h.2.mono B.size)⟩))
  have S1 := Lib.hid (fun (w' : World) (B : Below w.heap.size w w') => (short1 (hk.below B) (hm.below B) (by omega) (by omega)).mono fun e w'' h => (show e = .returned (.agg (vecA (shortL k msg))) ∧ Below w.heap.size w w'' from ⟨h.1, B.trans (h.2.mono B.size)⟩))
  have B1 := Lib.hid (fun (w' : World) (B : Below w.heap.size w w') => (block_any A n c k w' (hk.below B).nums hk.byte (by omega) hk.cap hk.max).mono fun e w'' h => (show e = .returned (.agg (vecA (blkL k))) ∧ Below w.heap.size w w'' from ⟨h.1, B.trans (h.2.mono B.size)⟩))
  have RO := Lib.hid (fun (w' : World) (B : Below w.heap.size w w') => (mac_any A n c A2 n2 c2 k msg w' (hk.below B).nums (hm.below B).nums hk.byte hm.byte (by omega) (by omega)).mono fun e w'' h => (show e = .returned (.agg (vecA (macL k msg))) ∧ Below w.heap.size w w'' from ⟨h.1, B.trans (h.2.mono B.size)⟩))
  have RS := Lib.hid (fun (w' : World) (B : Below w.heap.size w w') => (short_any A n c A2 n2 c2 k msg w' (hk.below B).nums (hm.below B).nums hk.byte hm.byte (by omega) (by omega)).mono fun e w'' h => (show e = .returned (.agg (vecA (shortL k msg))) ∧ Below w.heap.size w w'' from ⟨h.1, B.trans (h.2.mono B.size)⟩))
  have RB := Lib.hid (fun (w' : World) (B : Below w.heap.size w w') => (block5_any A n c k w' (hk.below B).nums hk.byte (by omega)).mono fun e w'' h => (show e = .returned (.agg (vecA (blkL k))) ∧ Below w.heap.size w w'' from ⟨h.1, B.trans (h.2.mono B.size)⟩))
  have AL := Lib.hid (fun (w' : World) (B : Below w.heap.size w w') => (alive_any w').mono fun e w'' h => (show e = .returned (.bool true) ∧ Below w.heap.size w w'' from ⟨h.1, B.trans (h.2.mono B.size)⟩))
  have hg1 := guard20
  have hg2 := guard12
  have hg3 := guard64
  have he1 := eq20 (mac_len k msg)
  have he2 := eq12 (short_len k msg)
  have he3 := eq64 (blk_len k)
  have hn : n ≤ 9223372036854775807 := by omega
  have hn2 : n2 ≤ 9223372036854775807 := by omega
  have BB := Below.refl w.heap.size w
  generalize vecA (macL k msg) = X at *
  generalize vecA (shortL k msg) = Y at *
  generalize vecA (blkL k) = V at *
  clear hk hm h h2
  go_enter Try.func3, Try.ntmps3
  go_wp2_with (first
    | (go_at_call 7; (with_reducible refine (long_any A n c _ hn).mono ?_); rintro e w' ⟨rfl, rfl⟩)
    | (go_at_call 7; (with_reducible refine (long_any A2 n2 c2 _ hn2).mono ?_); rintro e w' ⟨rfl, rfl⟩)
    | (go_at_call 9; (with_reducible refine (O1.out _ BB).mono ?_); rintro e w' ⟨rfl, BB⟩)
    | (go_at_call 11; (with_reducible refine (S1.out _ BB).mono ?_); rintro e w' ⟨rfl, BB⟩)
    | (go_at_call 13; (with_reducible refine (B1.out _ BB).mono ?_); rintro e w' ⟨rfl, BB⟩)
    | (go_at_call 10; (with_reducible refine (RO.out _ BB).mono ?_); rintro e w' ⟨rfl, BB⟩)
    | (go_at_call 12; (with_reducible refine (RS.out _ BB).mono ?_); rintro e w' ⟨rfl, BB⟩)
    | (go_at_call 14; (with_reducible refine (RB.out _ BB).mono ?_); rintro e w' ⟨rfl, BB⟩)
    | (go_at_call 8; (with_reducible refine (AL.out _ BB).mono ?_); rintro e w' ⟨rfl, BB⟩))
  go_ret
  exact ⟨rfl, BB⟩
theorem hmacof_walk (A : Option Addr) (n c : Nat) (k : List Int) (A2 : Option Addr) (n2 c2 : Nat) (msg : List Int) (w : World) (hk : Key w A n c k) (hm : Key w A2 n2 c2 msg) :
    Calls Try.prog 3 #[.slice A n c, .slice A2 n2 c2] w (AliveRet w) := by
  have h1 := hk.cap
  have h2 := hk.max
  have h3 := hm.cap
  have h4 := hm.max
  by_cases h : 1000 < n ∨ 1000 < n2
  · exact hmacof_long A n c A2 n2 c2 w (by omega) (by omega) h
  · exact hmacof_short A n c k A2 n2 c2 msg w hk hm (by omega) (by omega)
end Go.Proofs.Ytbpolandhjcggaa.hmC
