/-
  The walk of the first statement of octets.
-/
import Derived.Test.YtbdppelkefhieaaOctG
import Derived.Deep.RegionWith
import Derived.Deep.RegionHeld3
namespace Go.Proofs.Ytbdppelkefhieaa.octC
open Go.ChangeShapes Go.WideShapes Go.ChangeAt Go.RowKit
open Go.Proofs.Ytbdppelkefhieaa.memC
set_option linter.unusedVariables false
theorem str_of {w : World} {B : Nat} {A : Option Addr} {n : Nat} {xs : List Int} (h : Nums .u8 w B A n xs) (c : Nat) :
    (convert 22 9 (.slice A n c)).run Try.prog w = .ok (.string (strOfNums xs)) w :=
  run_string h c _ _ _ Try.underlying22 Try.underlying5 Try.underlying9
set_option maxRecDepth 100000 in
set_option maxHeartbeats 400000 in
theorem puts_long (A : Option Addr) (n c : Nat) (size : Int) (A2 : Option Addr) (m c2 : Nat) (w : World) (hn : n ≤ 9223372036854775807) (hm : m ≤ 9223372036854775807) (h : 3000 < n ∨ 300 < m) :
    Calls Try.prog 3 #[.slice A n c, .int .i64 size, .slice A2 m c2] w (AliveRet w) := by
  by_cases h1 : 3000 < n
  · have d1 : decide (3000 < n) = true := by simpa using h1
    go_enter Try.func3, Try.ntmps3
    go_wp2_with (first
      | (go_at_call 8; refine (long_any _ _ _ _ hn).mono ?_; rintro e w' ⟨rfl, rfl⟩)
      | (go_at_call 9; refine (alive_any _).mono ?_; rintro e w' ⟨rfl, hg⟩))
    go_ret
    exact ⟨rfl, hg⟩
  · have d1 : decide (3000 < n) = false := by simpa using h1
    have h2 : (300 : Int) < m := by omega
    go_enter Try.func3, Try.ntmps3
    go_wp2_with (first
      | (go_at_call 8; refine (long_any _ _ _ _ hn).mono ?_; rintro e w' ⟨rfl, rfl⟩)
      | (go_at_call 9; refine (alive_any _).mono ?_; rintro e w' ⟨rfl, hg⟩))
    go_ret
    exact ⟨rfl, hg⟩
set_option maxRecDepth 100000 in
set_option maxHeartbeats 1000000 in
theorem puts_short (A : Option Addr) (n c : Nat) (size : Int) (A2 : Option Addr) (m c2 : Nat) (bs ns : List Int) (w : World) (hb : Nums .u8 w w.heap.size A n bs) (hns : Nums .u64 w w.heap.size A2 m ns)
    (hs1 : -9223372036854775808 ≤ size) (hs2 : size ≤ 9223372036854775807) (hnc : n ≤ c) (hc : c ≤ 9223372036854775807) (hy : ∀ x ∈ bs, Byte x) (hn : n ≤ 3000) (hm : m ≤ 300) :
    Calls Try.prog 3 #[.slice A n c, .int .i64 size, .slice A2 m c2] w (AliveRet w) := by
  have d1 : decide (3000 < n) = false := by simpa using hn
  have HY := Lib.hid hy
  clear hy
  go_enter Try.func3, Try.ntmps3
  go_wp2_with (first
    | (go_at_call 8; refine (long_any _ _ _ _ (by omega)).mono ?_; rintro e w' ⟨rfl, rfl⟩))
  go_region_with (first
    | (go_at_call 10
       (refine (put_ret _ _ _ _ _ _ _ bs ns _ hs1 hs2 (by exact hb.heap rfl) (by exact hns.heap rfl) hn hm).mono ?_)
       rintro e w1 ⟨A1, c1, rfl, O1, h1, h1', N1, B1⟩
       have B1 : Below w.heap.size w w1 := ⟨B1.os, B1.tape, B1.output, B1.size, B1.block⟩
       have k1 := str_of N1 c1
       have k1a := str_of (w := w1.drew) (N1.heap rfl) c1
       have k1b := str_of (w := w1.drew.drew) (N1.heap rfl) c1)
    | (go_at_call 11
       (refine (putref_ret _ _ _ _ _ _ _ bs ns _ hs1 hs2 (by exact ((hb.below B1).more B1.size).heap rfl) (by exact ((hns.below B1).more B1.size).heap rfl) hn hm).mono ?_)
       rintro e w2 ⟨A2', c2', rfl, O2, h2, h2', N2, B2⟩
       have B2 : Below w1.heap.size w1 w2 := ⟨B2.os, B2.tape, B2.output, B2.size, B2.block⟩
       have k2 := str_of N2 c2'
       have k2a := str_of (w := w2.drew) (N2.heap rfl) c2'
       have k2b := str_of (w := w2.drew.drew) (N2.heap rfl) c2'
       have k1' := str_of (N1.below B2) c1
       have k1'a := str_of (w := w2.drew) ((N1.below B2).heap rfl) c1
       have k1'b := str_of (w := w2.drew.drew) ((N1.below B2).heap rfl) c1
       have B3 : Below w.heap.size w w2 := B1.trans (B2.mono B1.size))
    | (go_at_call 12
       (refine (get_any _ _ _ bs _ (by exact ((hb.below B3).more B3.size).heap rfl) (by omega) hnc hc HY.out).mono ?_)
       rintro e w' ⟨rfl, rfl⟩)
    | (go_at_call 13
       (refine (getref_any _ _ _ bs _ (by exact ((hb.below B3).more B3.size).heap rfl) (by omega) hnc hc HY.out).mono ?_)
       rintro e w' ⟨rfl, rfl⟩)
    | (go_at_call 9; refine (alive_any _).mono ?_; rintro e w3 ⟨rfl, hg⟩))
  all_goals
    have hg : Below w2.heap.size w2 w3 := ⟨hg.os, hg.tape, hg.output, hg.size, hg.block⟩
    have hg := B3.trans (hg.mono B3.size)
    clear k1 k1a k1b k2 k2a k2b k1' k1'a k1'b
    go_wp2_with fail
    go_ret
    exact ⟨rfl, hg⟩
theorem puts_walk (A : Option Addr) (n c : Nat) (size : Int) (A2 : Option Addr) (m c2 : Nat) (bs ns : List Int) (w : World) (hb : Nums .u8 w w.heap.size A n bs) (hns : Nums .u64 w w.heap.size A2 m ns)
    (hs1 : -9223372036854775808 ≤ size) (hs2 : size ≤ 9223372036854775807) (hnc : n ≤ c) (hc : c ≤ 9223372036854775807) (hm : m ≤ 9223372036854775807) (hy : ∀ x ∈ bs, Byte x) :
    Calls Try.prog 3 #[.slice A n c, .int .i64 size, .slice A2 m c2] w (AliveRet w) := by
  by_cases h : 3000 < n ∨ 300 < m
  · exact puts_long A n c size A2 m c2 w (by omega) hm h
  · exact puts_short A n c size A2 m c2 bs ns w hb hns hs1 hs2 hnc hc hy (by omega) (by omega)
end Go.Proofs.Ytbdppelkefhieaa.octC
