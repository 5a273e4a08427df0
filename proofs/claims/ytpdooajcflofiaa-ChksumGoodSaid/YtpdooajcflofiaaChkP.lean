/-
  What Pseudo, Load and Good do.
-/
import Derived.Test.YtpdooajcflofiaaCat
import Derived.StillTailTactics
import Derived.Deep.RegionWith
namespace Go.Proofs.Ytpdooajcflofiaa.chkC
open Go.ChangeShapes Go.WideShapes Go.ChangeAt Go.RowKit
open Go.Proofs.Ytpdooajcflofiaa.memC Go.Proofs.Ytpdooajcflofiaa.chkM
set_option linter.unusedVariables false
/-- an address's cells -/
structure AddrC (cs : Array Value) (six : Bool) (bs : List Int) : Prop where
  size : cs.size = 17
  six : cs[0]? = some (.bool six)
  len : bs.length = 16
  at_ : ∀ i, i < 16 → cs[1 + i]? = some (.int .u8 (bs.getD i 0))
  byte : ∀ x ∈ bs, Byte x
theorem cell_alloc_new (w : World) (cs : Array Value) (T : TypeId) (j : Nat) : (w.alloc (.cells cs T)).cell? ⟨w.heap.size, j, none⟩ = cs[j]? := by
  have h : (w.alloc (.cells cs T)).heap[w.heap.size]? = some (.cells cs T (0, 0)) := heap_alloc_new w _
  exact cell_of_row _ _ j cs T (0, 0) h
theorem alloc_below' (w0 w : World) (o : Obj) (h : w.heap.size = w0.heap.size + 1) : Below (w0.heap.size + 1) w (w.alloc o) := by rw [← h]; exact alloc_below w o
theorem AddrC.nums {cs : Array Value} {six : Bool} {bs : List Int} (h : AddrC cs six bs) (w : World) (T : TypeId) : Nums .u8 (w.alloc (.cells cs T)) (w.heap.size + 1) (some ⟨w.heap.size, 1, none⟩) 16 bs :=
  ⟨h.len, fun _ => ⟨w.heap.size, 1, rfl, Nat.lt_succ_self _, fun i hi => by rw [cell_alloc_new]; exact h.at_ i hi⟩⟩
theorem lit_part (w : World) (ls : List Int) (T : TypeId) (h : ls.length ≤ 10000) (hy : ∀ x ∈ ls, Byte x) :
    PartAt (w.alloc (.cells (ls.map (Value.int .u8)).toArray T)) (w.alloc (.cells (ls.map (Value.int .u8)).toArray T)).heap.size ⟨some ⟨w.heap.size, 0, none⟩, ls.length, ls.length, ls⟩ := by
  refine ⟨⟨rfl, fun _ => ⟨_, 0, rfl, by rw [alloc_size]; exact Nat.lt_succ_self _, fun i hi => ?_⟩⟩, h, hy⟩
  have hi' : i < ls.length := hi
  rw [Nat.zero_add, cell_alloc_new]
  simp [List.getD_eq_getElem?_getD, hi']
theorem concat3 {W : World} {A1 A2 : Option Addr} {n1 c1 n2 c2 : Nat} {b1 b2 : List Int} (ls : List Int) (cs : Array Value) (L n : Nat) (h1 : PartAt W W.heap.size ⟨A1, n1, c1, b1⟩) (h2 : PartAt W W.heap.size ⟨A2, n2, c2, b2⟩)
    (hcs : (ls.map (Value.int .u8)).toArray = cs) (hL : ls.length = L) (hL2 : L ≤ 10000) (hy : ∀ x ∈ ls, Byte x) (hn : n1 + (n2 + L) = n) (h0 : 0 < n) :
    Calls Try.prog 21 #[.slice (some ⟨W.heap.size + 1, 0, none⟩) 3 3]
      ((W.alloc (.cells cs 5)).alloc (.cells #[.slice A1 n1 c1, .slice A2 n2 c2, .slice (some ⟨W.heap.size, 0, none⟩) L L] 24)).drew (CatRet W (b1 ++ (b2 ++ ls)) n) := by
  subst hL
  have P3 := lit_part W ls 5 hL2 hy
  rw [hcs] at P3
  have PP := parts3 (h1.alloc (.cells cs 5)) (h2.alloc (.cells cs 5)) P3 24
  have f1 := h1.few
  have f2 := h2.few
  simp only at f1 f2
  have PQ := PP.heap (w' := ((W.alloc (.cells cs 5)).alloc (.cells #[.slice A1 n1 c1, .slice A2 n2 c2, .slice (some ⟨W.heap.size, 0, none⟩) ls.length ls.length] 24)).drew) rfl
  have C := concat_any _ 3 3 n _ _ PQ (by decide) rfl (by simp [nsum]; exact hn) h0 (by omega)
  rw [alloc_size] at C
  have B : Below W.heap.size W ((W.alloc (.cells cs 5)).alloc (.cells #[.slice A1 n1 c1, .slice A2 n2 c2, .slice (some ⟨W.heap.size, 0, none⟩) ls.length ls.length] 24)).drew := (((Below.refl _ _).alloc (Nat.le_refl _) _).alloc (by simp) _).drew
  refine C.mono fun e w' ⟨A, c, he, g1, g2, O, Bw⟩ => ⟨A, c, he, g1, g2, ?_, B.trans (Bw.mono B.size)⟩
  have := O.less B.size
  simpa [catL] using this
set_option maxRecDepth 100000 in
set_option maxHeartbeats 1000000 in
theorem pseudo_six (cs1 cs2 : Array Value) (s1 s2 : Bool) (b1 b2 : List Int) (p n : Int) (w : World) (h1 : AddrC cs1 s1 b1) (h2 : AddrC cs2 s2 b2) (hs : (s1 || s2) = true) (p0 : 0 ≤ p) (p1 : p ≤ 255) (n0 : 0 ≤ n) (n1 : n ≤ 10000) :
    Calls Try.prog 20 #[.agg cs1, .agg cs2, .int .u8 p, .int .i64 n] w (CatRet w (b1 ++ (b2 ++ [n / 16777216, n / 65536, n / 256, n % 256, 0, 0, 0, p])) 40) := by
  have hz : (w.alloc (.cells cs1 34)).heap.size = w.heap.size + 1 := alloc_size _ _
  have N1 := (h1.nums w 34).below (alloc_below' w (w.alloc (.cells cs1 34)) (.cells cs2 34) hz)
  have N2 := h2.nums (w.alloc (.cells cs1 34)) 34
  rw [hz] at N2
  have k1 : ((w.alloc (.cells cs1 34)).alloc (.cells cs2 34)).cell? ⟨w.heap.size, 0, none⟩ = some (.bool s1) := by
    rw [(alloc_below' w (w.alloc (.cells cs1 34)) (.cells cs2 34) hz).cell (Nat.lt_succ_self _), cell_alloc_new, h1.six]
  have k2 : ((w.alloc (.cells cs1 34)).alloc (.cells cs2 34)).cell? ⟨w.heap.size + 1, 0, none⟩ = some (.bool s2) := by
    have := cell_alloc_new (w.alloc (.cells cs1 34)) cs2 34 0
    rw [hz] at this
    rw [this, h2.six]
  have HZ := Lib.hid hz
  clear hz
  cases s1 <;> cases s2
  all_goals try (exfalso; cases hs; done)
  all_goals
    clear hs
    go_enter Try.func20, Try.ntmps20
    go_wp2_with fail
    have P1 : PartAt ((w.alloc (.cells cs1 34)).alloc (.cells cs2 34)) ((w.alloc (.cells cs1 34)).alloc (.cells cs2 34)).heap.size ⟨some ⟨w.heap.size, 1, none⟩, 16, 16, b1⟩ :=
      ⟨N1.more (by rw [alloc_size, HZ.out]; omega), (show 16 ≤ 10000 by decide), h1.byte⟩
    have P2 : PartAt ((w.alloc (.cells cs1 34)).alloc (.cells cs2 34)) ((w.alloc (.cells cs1 34)).alloc (.cells cs2 34)).heap.size ⟨some ⟨w.heap.size + 1, 1, none⟩, 16, 16, b2⟩ :=
      ⟨N2.more (by rw [alloc_size, HZ.out]; omega), (show 16 ≤ 10000 by decide), h2.byte⟩
    have BW : Below w.heap.size w ((w.alloc (.cells cs1 34)).alloc (.cells cs2 34)) := ((Below.refl _ _).alloc (Nat.le_refl _) _).alloc (by simp) _
    clear N1 N2 k1 k2 HZ
    generalize (w.alloc (.cells cs1 34)).alloc (.cells cs2 34) = W at *
    have e1 : IntKind.u8.wrap (n / 16777216) = n / 16777216 := IntWalk.u8_in _ (by omega)
    have e2 : IntKind.u8.wrap (n / 65536) = n / 65536 := IntWalk.u8_in _ (by omega)
    have e3 : IntKind.u8.wrap (n / 256) = n / 256 := IntWalk.u8_in _ (by omega)
    have e4 : IntKind.u8.wrap n = n % 256 := IntKind.wrap_u8 n
    go_region_with (first
      | (go_at_call 21
         (refine (concat3 [n / 16777216, n / 65536, n / 256, n % 256, 0, 0, 0, p] _ 8 40 P1 P2 rfl rfl (by decide) (by simp [Byte]; omega) rfl (by decide)).mono ?_)
         rintro e w3 ⟨A3, c3, rfl, g1, g2, O3, B3⟩))
    clear P1 P2
    go_wp2_with fail
    go_ret
    exact ⟨A3, c3, rfl, g1, g2, O3.less BW.size, BW.trans (B3.mono BW.size)⟩
set_option maxRecDepth 100000 in
set_option maxHeartbeats 1000000 in
theorem pseudo_four (cs1 cs2 : Array Value) (s1 s2 : Bool) (b1 b2 : List Int) (p n : Int) (w : World) (h1 : AddrC cs1 s1 b1) (h2 : AddrC cs2 s2 b2) (hs : (s1 || s2) = false) (p0 : 0 ≤ p) (p1 : p ≤ 255) (n0 : 0 ≤ n) (n1 : n ≤ 10000) :
    Calls Try.prog 20 #[.agg cs1, .agg cs2, .int .u8 p, .int .i64 n] w (CatRet w (b1.take 4 ++ (b2.take 4 ++ [0, p, n / 256, n % 256])) 12) := by
  have hz : (w.alloc (.cells cs1 34)).heap.size = w.heap.size + 1 := alloc_size _ _
  have N1 := (h1.nums w 34).below (alloc_below' w (w.alloc (.cells cs1 34)) (.cells cs2 34) hz)
  have N2 := h2.nums (w.alloc (.cells cs1 34)) 34
  rw [hz] at N2
  have k1 : ((w.alloc (.cells cs1 34)).alloc (.cells cs2 34)).cell? ⟨w.heap.size, 0, none⟩ = some (.bool s1) := by
    rw [(alloc_below' w (w.alloc (.cells cs1 34)) (.cells cs2 34) hz).cell (Nat.lt_succ_self _), cell_alloc_new, h1.six]
  have k2 : ((w.alloc (.cells cs1 34)).alloc (.cells cs2 34)).cell? ⟨w.heap.size + 1, 0, none⟩ = some (.bool s2) := by
    have := cell_alloc_new (w.alloc (.cells cs1 34)) cs2 34 0
    rw [hz] at this
    rw [this, h2.six]
  have HZ := Lib.hid hz
  clear hz
  cases s1 <;> cases s2
  all_goals try (exfalso; cases hs; done)
  all_goals
    clear hs
    go_enter Try.func20, Try.ntmps20
    go_wp2_with fail
    have P1 : PartAt ((w.alloc (.cells cs1 34)).alloc (.cells cs2 34)) ((w.alloc (.cells cs1 34)).alloc (.cells cs2 34)).heap.size ⟨some ⟨w.heap.size, 1, none⟩, 4, 16, b1.take 4⟩ :=
      ⟨(N1.upto (show 4 ≤ 16 by decide)).more (by rw [alloc_size, HZ.out]; omega), (show 4 ≤ 10000 by decide), take_byte h1.byte 4⟩
    have P2 : PartAt ((w.alloc (.cells cs1 34)).alloc (.cells cs2 34)) ((w.alloc (.cells cs1 34)).alloc (.cells cs2 34)).heap.size ⟨some ⟨w.heap.size + 1, 1, none⟩, 4, 16, b2.take 4⟩ :=
      ⟨(N2.upto (show 4 ≤ 16 by decide)).more (by rw [alloc_size, HZ.out]; omega), (show 4 ≤ 10000 by decide), take_byte h2.byte 4⟩
    have BW : Below w.heap.size w ((w.alloc (.cells cs1 34)).alloc (.cells cs2 34)) := ((Below.refl _ _).alloc (Nat.le_refl _) _).alloc (by simp) _
    clear N1 N2 k1 k2 HZ
    generalize (w.alloc (.cells cs1 34)).alloc (.cells cs2 34) = W at *
    have e3 : IntKind.u8.wrap (n / 256) = n / 256 := IntWalk.u8_in _ (by omega)
    have e4 : IntKind.u8.wrap n = n % 256 := IntKind.wrap_u8 n
    go_region_with (first
      | (go_at_call 21
         (refine (concat3 [0, p, n / 256, n % 256] _ 4 12 P1 P2 rfl rfl (by decide) (by simp [Byte]; omega) rfl (by decide)).mono ?_)
         rintro e w3 ⟨A3, c3, rfl, g1, g2, O3, B3⟩))
    clear P1 P2
    go_wp2_with fail
    go_ret
    exact ⟨A3, c3, rfl, g1, g2, O3.less BW.size, BW.trans (B3.mono BW.size)⟩
/-- the pseudo header hangs on what is handed in alone -/
theorem pseudo_ex (cs1 cs2 : Array Value) (s1 s2 : Bool) (b1 b2 : List Int) (p n : Int) (h1 : AddrC cs1 s1 b1) (h2 : AddrC cs2 s2 b2) (p0 : 0 ≤ p) (p1 : p ≤ 255) (n0 : 0 ≤ n) (n1 : n ≤ 10000) :
    ∃ (T : List Int) (N : Nat), N ≤ 100 ∧ (∀ x ∈ T, Byte x) ∧ ∀ w, Calls Try.prog 20 #[.agg cs1, .agg cs2, .int .u8 p, .int .i64 n] w (CatRet w T N) := by
  cases hs : (s1 || s2)
  · refine ⟨b1.take 4 ++ (b2.take 4 ++ [0, p, n / 256, n % 256]), 12, by decide, fun x hx => ?_, fun w => pseudo_four cs1 cs2 s1 s2 b1 b2 p n w h1 h2 hs p0 p1 n0 n1⟩
    rcases List.mem_append.1 hx with hx | hx
    · exact take_byte h1.byte 4 x hx
    · rcases List.mem_append.1 hx with hx | hx
      · exact take_byte h2.byte 4 x hx
      · revert x; simp [Byte]; omega
  · refine ⟨b1 ++ (b2 ++ [n / 16777216, n / 65536, n / 256, n % 256, 0, 0, 0, p]), 40, by decide, fun x hx => ?_, fun w => pseudo_six cs1 cs2 s1 s2 b1 b2 p n w h1 h2 hs p0 p1 n0 n1⟩
    rcases List.mem_append.1 hx with hx | hx
    · exact h1.byte x hx
    · rcases List.mem_append.1 hx with hx | hx
      · exact h2.byte x hx
      · revert x; simp [Byte]; omega
end Go.Proofs.Ytpdooajcflofiaa.chkC
