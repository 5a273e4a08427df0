/-
  Rows of parts that the call lays itself; what alive does; the walk of the second statement.
-/
import Derived.Test.YtpdooajcflofiaaChkB
namespace Go.Proofs.Ytpdooajcflofiaa.chkC
open Go.ChangeShapes Go.WideShapes Go.ChangeAt Go.RowKit
open Go.Proofs.Ytpdooajcflofiaa.memC Go.Proofs.Ytpdooajcflofiaa.chkM
set_option linter.unusedVariables false
theorem bel_drewN {B : Nat} {a w : World} (h : Below B a w) (n : Nat) : Below B a (w.drewN n) := ⟨h.os, h.tape, h.output, h.size, h.block⟩
theorem alloc_below (w : World) (o : Obj) : Below w.heap.size w (w.alloc o) := (Below.refl _ _).alloc (Nat.le_refl _) _
theorem alloc_size (w : World) (o : Obj) : (w.alloc o).heap.size = w.heap.size + 1 := by simp
theorem PartAt.alloc {w : World} {p : Part} (h : PartAt w w.heap.size p) (o : Obj) : PartAt (w.alloc o) (w.alloc o).heap.size p := h.below (alloc_below w o) (alloc_below w o).size
theorem parts1 {w : World} {A : Option Addr} {n c : Nat} {bs : List Int} (h : PartAt w w.heap.size ⟨A, n, c, bs⟩) (T : TypeId) :
    Parts (w.alloc (.cells #[.slice A n c] T)) (w.alloc (.cells #[.slice A n c] T)).heap.size (some ⟨w.heap.size, 0, none⟩) [⟨A, n, c, bs⟩] := by
  refine ⟨fun _ => ⟨_, 0, rfl, by rw [alloc_size]; exact Nat.lt_succ_self _, fun i hi => ?_⟩, fun p hp => ?_⟩
  · obtain rfl : i = 0 := by simpa using hi
    simp [go_sem]
  · obtain rfl := List.mem_singleton.1 hp
    exact h.alloc _
theorem parts2 {w : World} {A A' : Option Addr} {n c n' c' : Nat} {bs bs' : List Int} (h : PartAt w w.heap.size ⟨A, n, c, bs⟩) (h' : PartAt w w.heap.size ⟨A', n', c', bs'⟩) (T : TypeId) :
    Parts (w.alloc (.cells #[.slice A n c, .slice A' n' c'] T)) (w.alloc (.cells #[.slice A n c, .slice A' n' c'] T)).heap.size (some ⟨w.heap.size, 0, none⟩) [⟨A, n, c, bs⟩, ⟨A', n', c', bs'⟩] := by
  refine ⟨fun _ => ⟨_, 0, rfl, by rw [alloc_size]; exact Nat.lt_succ_self _, fun i hi => ?_⟩, fun p hp => ?_⟩
  · simp only [List.length_cons, List.length_nil] at hi
    match i, hi with
    | 0, _ => simp [go_sem]
    | 1, _ => simp [go_sem]
  · rcases List.mem_cons.1 hp with rfl | hp
    · exact h.alloc _
    · obtain rfl := List.mem_singleton.1 hp
      exact h'.alloc _
theorem parts3 {w : World} {A A' A2 : Option Addr} {n c n' c' n2 c2 : Nat} {bs bs' bs2 : List Int} (h : PartAt w w.heap.size ⟨A, n, c, bs⟩) (h' : PartAt w w.heap.size ⟨A', n', c', bs'⟩) (h2 : PartAt w w.heap.size ⟨A2, n2, c2, bs2⟩) (T : TypeId) :
    Parts (w.alloc (.cells #[.slice A n c, .slice A' n' c', .slice A2 n2 c2] T)) (w.alloc (.cells #[.slice A n c, .slice A' n' c', .slice A2 n2 c2] T)).heap.size (some ⟨w.heap.size, 0, none⟩) [⟨A, n, c, bs⟩, ⟨A', n', c', bs'⟩, ⟨A2, n2, c2, bs2⟩] := by
  refine ⟨fun _ => ⟨_, 0, rfl, by rw [alloc_size]; exact Nat.lt_succ_self _, fun i hi => ?_⟩, fun p hp => ?_⟩
  · simp only [List.length_cons, List.length_nil] at hi
    match i, hi with
    | 0, _ => simp [go_sem]
    | 1, _ => simp [go_sem]
    | 2, _ => simp [go_sem]
  · rcases List.mem_cons.1 hp with rfl | hp
    · exact h.alloc _
    · rcases List.mem_cons.1 hp with rfl | hp
      · exact h'.alloc _
      · obtain rfl := List.mem_singleton.1 hp
        exact h2.alloc _
/-- what the statements end with: true, and what was there stands -/
def AliveRet (w : World) (e : Ending) (w' : World) : Prop := e = .returned (.bool true) ∧ Below w.heap.size w w'
def header : List Int := [69, 0, 0, 28, 0, 0, 0, 0, 64, 1, 0, 0, 10, 0, 0, 1, 10, 0, 0, 2]
theorem header_nums (w : World) (T : TypeId) : PartAt (w.alloc (.cells (header.map (Value.int .u8)).toArray T)) (w.alloc (.cells (header.map (Value.int .u8)).toArray T)).heap.size ⟨some ⟨w.heap.size, 0, none⟩, 20, 20, header⟩ := by
  refine ⟨⟨rfl, fun _ => ⟨_, 0, rfl, by rw [alloc_size]; exact Nat.lt_succ_self _, fun i hi => ?_⟩⟩, (show 20 ≤ 10000 by decide), ?_⟩
  · have h2 : i < 20 := hi
    rcases (show i = 0 ∨ i = 1 ∨ i = 2 ∨ i = 3 ∨ i = 4 ∨ i = 5 ∨ i = 6 ∨ i = 7 ∨ i = 8 ∨ i = 9 ∨ i = 10 ∨ i = 11 ∨ i = 12 ∨ i = 13 ∨ i = 14 ∨ i = 15 ∨ i = 16 ∨ i = 17 ∨ i = 18 ∨ i = 19 by omega) with rfl | rfl | rfl | rfl | rfl | rfl | rfl | rfl | rfl | rfl | rfl | rfl | rfl | rfl | rfl | rfl | rfl | rfl | rfl | rfl <;> simp [go_sem, header]
  · unfold header Byte; simp
theorem header_cells : (header.map (Value.int .u8)).toArray = #[.int .u8 69, .int .u8 0, .int .u8 0, .int .u8 28, .int .u8 0, .int .u8 0, .int .u8 0, .int .u8 0, .int .u8 64, .int .u8 1, .int .u8 0, .int .u8 0, .int .u8 10, .int .u8 0, .int .u8 0, .int .u8 1, .int .u8 10, .int .u8 0, .int .u8 0, .int .u8 2] := rfl
theorem header_check (A : Option Addr) (n c : Nat) : ckZ [⟨A, n, c, header⟩] = 26335 := by
  show 65535 - fo (wsum header + 0) = 26335
  decide +kernel
theorem header_turn : trZ 26335 16385 16129 = 26591 := by decide +kernel
set_option maxRecDepth 100000 in
theorem alive_any (w : World) : Calls Try.prog 8 #[] w (AliveRet w) := by
  have H := header_nums w 5
  have C := check_any _ 1 1 _ _ (parts1 H 24) (by decide) rfl
  rw [header_check, header_cells, alloc_size] at C
  have T := turn_any 26335 16385 16129
  rw [header_turn] at T
  have CC := Lib.hid C
  have TT := Lib.hid T
  clear C T H
  go_enter Try.func8, Try.ntmps8
  go_wp2_with (first
    | (go_at_call 12; (refine CC.out.mono ?_; rintro e w' ⟨rfl, j, rfl⟩))
    | (go_at_call 13; (refine (TT.out _ (by decide) (by decide) (by decide) (by decide) (by decide) (by decide)).mono ?_; rintro e w' ⟨rfl, rfl⟩)))
  go_ret
  exact ⟨rfl, bel_drewN (((alloc_below w _).trans ((alloc_below _ _).mono (alloc_below _ _).size))) _⟩
theorem alive_past {w w1 : World} (B : Below w.heap.size w w1) : Calls Try.prog 8 #[] w1 (AliveRet w) :=
  (alive_any w1).mono fun e w' h => ⟨h.1, B.trans (h.2.mono B.size)⟩
theorem turns_walk (c a b : Int) (w : World) (c0 : 0 ≤ c) (c1 : c ≤ 65535) (a0 : 0 ≤ a) (a1 : a ≤ 65535) (b0 : 0 ≤ b) (b1 : b ≤ 65535) :
    Calls Try.prog 4 #[.int .u16 c, .int .u16 a, .int .u16 b] w (AliveRet w) := by
  have T1 := Lib.hid (turn_any c a b w c0 c1 a0 a1 b0 b1)
  have T2 := Lib.hid (turnref_any c a b w c0 c1 a0 a1 b0 b1)
  obtain ⟨t, ht⟩ : ∃ t, t = trZ c a b := ⟨_, rfl⟩
  rw [← ht] at T1 T2
  clear ht
  go_enter Try.func4, Try.ntmps4
  go_wp2_with (first
    | (go_at_call 13; (refine T1.out.mono ?_; rintro e w' ⟨rfl, rfl⟩))
    | (go_at_call 14; (refine T2.out.mono ?_; rintro e w' ⟨rfl, rfl⟩))
    | (go_at_call 8; (refine (alive_any _).mono ?_; rintro e w' ⟨rfl, hb⟩)))
  go_ret
  exact ⟨rfl, hb⟩
end Go.Proofs.Ytpdooajcflofiaa.chkC
