/-
  The walk of the first statement.
-/
import Derived.Test.YthilojkhedcihaaShaL
namespace Go.Proofs.Ythilojkhedcihaa.shaC
open Go.ChangeShapes Go.WideShapes Go.ChangeAt Go.RowKit
open Go.Proofs.Ythilojkhedcihaa.memC Go.Proofs.Ythilojkhedcihaa.genC Go.Proofs.Ythilojkhedcihaa.shaM Go.Proofs.Ythilojkhedcihaa.shaN Go.Proofs.Ythilojkhedcihaa.butC Go.Proofs.Ythilojkhedcihaa.partsC Go.Proofs.Ythilojkhedcihaa.freeC
set_option linter.unusedVariables false
theorem long_any (A : Option Addr) (n c : Nat) (w : World) (hn : n ≤ 9223372036854775807) :
    Calls Try.prog 7 #[.slice A n c] w fun e w' => e = .returned (.bool (decide (2000 < n))) ∧ w = w' := by
  go_enter Try.func7, Try.ntmps7
  go_wp2
  go_ret
  exact ⟨ret_bool (by rw [decide_eq_decide]; omega), rfl⟩
theorem cat1 (A : Option Addr) (n c : Nat) (bs : List Int) : catL [⟨A, n, c, bs⟩] = bs := by simp [catL]
theorem cat2 (A A2 : Option Addr) (n c n2 c2 : Nat) (bs bs2 : List Int) : catL [⟨A, n, c, bs⟩, ⟨A2, n2, c2, bs2⟩] = bs ++ bs2 := by simp [catL]
/-- a digest, and what was there stands -/
def DigRet (xs : List Int) (w : World) (e : Ending) (w' : World) : Prop := e = .returned (.agg (digA xs)) ∧ Below w.heap.size w w'
/-- Of one part that the call lays -/
theorem of1 {w : World} {A : Option Addr} {n c : Nat} {bs : List Int} (h : PartAt w w.heap.size ⟨A, n, c, bs⟩) :
    Calls Try.prog 9 #[.slice (some ⟨w.heap.size, 0, none⟩) 1 1] (w.alloc (.cells #[.slice A n c] 22)) fun e w' => e = .returned (.agg (digA bs)) ∧ Below w.heap.size w w' :=
  (ofp_any _ 1 1 _ _ (parts1 h 22) rfl (by decide)).mono fun e w' h2 => ⟨by have := h2.1; rw [cat1] at this; exact this, (alloc_below w _).trans (h2.2.mono (alloc_below w (.cells #[.slice A n c] 22)).size)⟩
theorem of2 {w : World} {A A2 : Option Addr} {n c n2 c2 : Nat} {bs bs2 : List Int} (h : PartAt w w.heap.size ⟨A, n, c, bs⟩) (h2 : PartAt w w.heap.size ⟨A2, n2, c2, bs2⟩) :
    Calls Try.prog 9 #[.slice (some ⟨w.heap.size, 0, none⟩) 2 2] (w.alloc (.cells #[.slice A n c, .slice A2 n2 c2] 22)) fun e w' => e = .returned (.agg (digA (bs ++ bs2))) ∧ Below w.heap.size w w' :=
  (ofp_any _ 2 2 _ _ (parts2 h h2 22) rfl (by decide)).mono fun e w' h3 => ⟨by have := h3.1; rw [cat2] at this; exact this, (alloc_below w _).trans (h3.2.mono (alloc_below w (.cells #[.slice A n c, .slice A2 n2 c2] 22)).size)⟩
theorem shaof_long (A : Option Addr) (n c : Nat) (w : World) (hn : n ≤ 9223372036854775807) (h : 2000 < n) : Calls Try.prog 3 #[.slice A n c] w (AliveRet w) := by
  have d1 : decide (2000 < n) = true := by simpa using h
  clear h
  go_enter Try.func3, Try.ntmps3
  go_wp2_with (first
    | (go_at_call 7; (with_reducible refine (long_any A _ _ _ hn).mono ?_); rintro e w' ⟨rfl, rfl⟩)
    | (go_at_call 8; refine (alive_any _).mono ?_; rintro e w' ⟨rfl, B⟩))
  go_ret
  exact ⟨rfl, B⟩
set_option maxRecDepth 100000 in
set_option maxHeartbeats 1000000 in
theorem shaof_short (A : Option Addr) (n c : Nat) (bs : List Int) (w : World) (hb : Nums .u8 w w.heap.size A n bs) (hy : ∀ x ∈ bs, Byte x) (hc : n ≤ c) (hc2 : c ≤ 9223372036854775807) (h : n ≤ 2000) :
    Calls Try.prog 3 #[.slice A n c] w (AliveRet w) := by
  have d1 : decide (2000 < n) = false := by simpa using h
  have O1 := Lib.hid (of1 (w := w) (A := A) (n := n) (c := c) (bs := bs) ⟨hb, by show n ≤ 10000; omega, hy, hc, hc2⟩)
  have N0 := Lib.hid (fun (w' : World) (B : Below w.heap.size w w') => (show Nums .u8 w' w'.heap.size A n bs from (hb.below B).more B.size))
  have RF := Lib.hid (fun (w' : World) (B : Below w.heap.size w w') => (of_any A n c bs w' (N0.out w' B) hy (by omega)).mono fun e w'' h => (show e = .returned (.agg (digA bs)) ∧ Below w.heap.size w w'' from ⟨h.1, B.trans (h.2.mono B.size)⟩))
  have AD := Lib.hid (fun (w' : World) (B : Below w.heap.size w w') => (add_any [] bs A n c w' (N0.out w' B) hc hc2 (by simp) hy (by simp; omega)).mono fun e w'' h => (show e = .returned (.agg (sumL bs).toArray) ∧ Below w.heap.size w w'' from ⟨h.1, B.trans (h.2.mono B.size)⟩))
  have DG := Lib.hid (fun (w' : World) (B : Below w.heap.size w w') => (digest_any bs w' hy (by rw [hb.len]; omega)).mono fun e w'' h => (show e = .returned (.agg (digA bs)) ∧ Below w.heap.size w w'' from ⟨h.1, B.trans (h.2.mono B.size)⟩))
  have NW := Lib.hid (fun (w' : World) (B : Below w.heap.size w w') => (new_any w').mono fun e w'' h => (show e = .returned (.agg (sumL []).toArray) ∧ Below w.heap.size w w'' from ⟨h.1, B.trans (h.2.mono B.size)⟩))
  have AL := Lib.hid (fun (w' : World) (B : Below w.heap.size w w') => (alive_any w').mono fun e w'' h => (show e = .returned (.bool true) ∧ Below w.heap.size w w'' from ⟨h.1, B.trans (h.2.mono B.size)⟩))
  have hm := dig_guard
  have heq := dig_eq bs
  have hn : n ≤ 9223372036854775807 := by omega
  have BB := Below.refl w.heap.size w
  generalize digA bs = X at *
  clear hb hy h
  go_enter Try.func3, Try.ntmps3
  go_wp2_with (first
    | (go_at_call 7; (with_reducible refine (long_any A _ _ _ hn).mono ?_); rintro e w' ⟨rfl, rfl⟩)
    | (go_at_call 9; (with_reducible refine O1.out.mono ?_); rintro e w' ⟨rfl, BB⟩)
    | (go_at_call 10; (with_reducible refine (RF.out _ BB).mono ?_); rintro e w' ⟨rfl, BB⟩)
    | (go_at_call 11; (with_reducible refine (NW.out _ BB).mono ?_); rintro e w' ⟨rfl, BB⟩)
    | (go_at_call 12; (with_reducible refine (AD.out _ BB).mono ?_); rintro e w' ⟨rfl, BB⟩)
    | (go_at_call 13; (with_reducible refine (DG.out _ BB).mono ?_); rintro e w' ⟨rfl, BB⟩)
    | (go_at_call 8; (with_reducible refine (AL.out _ BB).mono ?_); rintro e w' ⟨rfl, BB⟩))
  go_ret
  exact ⟨rfl, BB⟩
theorem shaof_walk (A : Option Addr) (n c : Nat) (bs : List Int) (w : World) (hb : Nums .u8 w w.heap.size A n bs) (hy : ∀ x ∈ bs, Byte x) (hc : n ≤ c) (hc2 : c ≤ 9223372036854775807) :
    Calls Try.prog 3 #[.slice A n c] w (AliveRet w) := by
  by_cases h : 2000 < n
  · exact shaof_long A n c w (by omega) h
  · exact shaof_short A n c bs w hb hy hc hc2 (by omega)
end Go.Proofs.Ythilojkhedcihaa.shaC
