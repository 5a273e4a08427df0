/-
  What Load and Good do.
-/
import Derived.Test.YtpdooajcflofiaaChkP
import Derived.Laws.Rows
namespace Go.Proofs.Ytpdooajcflofiaa.chkC
open Go.ChangeShapes Go.WideShapes Go.ChangeAt Go.RowKit
open Go.Proofs.Ytpdooajcflofiaa.memC Go.Proofs.Ytpdooajcflofiaa.chkM
set_option linter.unusedVariables false
theorem addr_info : (Try.prog.info? 34).map (·.size) = some 17 := by kernel_rfl
theorem check2_on {w w0 : World} {A A' : Option Addr} {n c n' c' : Nat} {bs bs' : List Int} {f : Int} (B : Below w.heap.size w w0) (h : PartAt w0 w0.heap.size ⟨A, n, c, bs⟩) (h' : PartAt w0 w0.heap.size ⟨A', n', c', bs'⟩) (hf : 65535 - fo (wsum bs + wsum bs') = f) :
    Calls Try.prog 12 #[.slice (some ⟨w0.heap.size, 0, none⟩) 2 2] (w0.alloc (.cells #[.slice A n c, .slice A' n' c'] 24)) (NumRet w f) :=
  (check_any _ 2 2 _ _ (parts2 h h' 24) (by decide) rfl).mono fun e w' ⟨he, j, hw⟩ =>
    ⟨by rw [he]; exact ret_int (by rw [← hf]; simp [ckZ, numsOf, psum]), by rw [hw]; exact bel_drewN (B.trans ((alloc_below w0 _).mono B.size)) j⟩
set_option maxRecDepth 100000 in
set_option maxHeartbeats 1000000 in
theorem load_any (cs1 cs2 : Array Value) (p : Int) (A : Option Addr) (n c N : Nat) (T bs : List Int) (f : Int) (w : World) (z1 : cs1.size = 17) (z2 : cs2.size = 17) (hN : N ≤ 100) (hT : ∀ x ∈ T, Byte x)
    (hP : ∀ w, Calls Try.prog 20 #[.agg cs1, .agg cs2, .int .u8 p, .int .i64 n] w (CatRet w T N)) (hb : PartAt w w.heap.size ⟨A, n, c, bs⟩) (hf : 65535 - fo (wsum T + wsum bs) = f) :
    Calls Try.prog 15 #[.agg cs1, .agg cs2, .int .u8 p, .slice A n c] w (NumRet w f) := by
  have g1 := heap_alloc2_old w (.cells cs1 34) (.cells cs2 34)
  have g2 := heap_alloc2_new w (.cells cs1 34) (.cells cs2 34)
  have u1 : (Try.prog.info? 34).map (·.size) = some cs1.size := by rw [z1]; exact addr_info
  have u2 : (Try.prog.info? 34).map (·.size) = some cs2.size := by rw [z2]; exact addr_info
  have BW : Below w.heap.size w ((w.alloc (.cells cs1 34)).alloc (.cells cs2 34)) := ((Below.refl _ _).alloc (Nat.le_refl _) _).alloc (by simp) _
  have hn := hb.few
  simp only at hn
  have G1 := Lib.hid g1; have G2 := Lib.hid g2; have U1 := Lib.hid u1; have U2 := Lib.hid u2
  have PP := Lib.hid hP
  have HF := Lib.hid hf
  clear g1 g2 u1 u2 z1 z2 hf hP
  go_enter Try.func15, Try.ntmps15
  go_wp2_with (first
    | (refine wpList_load_row rfl 34 (.tmp 4) rfl w.heap.size rfl _ cs1 _ _ G1.out Try.underlying34 rfl U1.out ?_)
    | (refine wpList_load_row rfl 34 (.tmp 5) rfl (w.heap.size + 1) rfl _ cs2 _ _ G2.out Try.underlying34 rfl U2.out ?_)
    | (go_at_call 20; (refine (PP.out _).mono ?_)
       rintro e w3 ⟨A3, c3, rfl, g1, g2, O3, B3⟩
       have B4 : Below w.heap.size w w3 := BW.trans (B3.mono BW.size)
       have P3 : PartAt w3 w3.heap.size ⟨A3, N, c3, T⟩ := ⟨O3.nums, by show N ≤ 10000; omega, hT⟩)
    | (go_at_call 12; ((with_reducible refine (check2_on B4 P3 (hb.past B4) HF.out).mono ?_); rintro e w5 ⟨rfl, B5⟩)))
  go_ret
  exact ⟨rfl, B5⟩
set_option maxRecDepth 100000 in
set_option maxHeartbeats 1000000 in
theorem good_any (cs1 cs2 : Array Value) (p : Int) (A : Option Addr) (n c N : Nat) (T bs : List Int) (f : Int) (w : World) (z1 : cs1.size = 17) (z2 : cs2.size = 17) (hN : N ≤ 100) (hT : ∀ x ∈ T, Byte x)
    (hP : ∀ w, Calls Try.prog 20 #[.agg cs1, .agg cs2, .int .u8 p, .int .i64 n] w (CatRet w T N)) (hb : PartAt w w.heap.size ⟨A, n, c, bs⟩) (hf : fo (wsum T + wsum bs) = f) :
    Calls Try.prog 16 #[.agg cs1, .agg cs2, .int .u8 p, .slice A n c] w (fun e w' => e = .returned (.bool (decide (f = 65535))) ∧ Below w.heap.size w w') := by
  have g1 := heap_alloc2_old w (.cells cs1 34) (.cells cs2 34)
  have g2 := heap_alloc2_new w (.cells cs1 34) (.cells cs2 34)
  have u1 : (Try.prog.info? 34).map (·.size) = some cs1.size := by rw [z1]; exact addr_info
  have u2 : (Try.prog.info? 34).map (·.size) = some cs2.size := by rw [z2]; exact addr_info
  have BW : Below w.heap.size w ((w.alloc (.cells cs1 34)).alloc (.cells cs2 34)) := ((Below.refl _ _).alloc (Nat.le_refl _) _).alloc (by simp) _
  have hn := hb.few
  simp only at hn
  have G1 := Lib.hid g1; have G2 := Lib.hid g2; have U1 := Lib.hid u1; have U2 := Lib.hid u2
  have PP := Lib.hid hP
  have HF := Lib.hid hf
  clear g1 g2 u1 u2 z1 z2 hf hP
  go_enter Try.func16, Try.ntmps16
  go_wp2_with (first
    | (refine wpList_load_row rfl 34 (.tmp 4) rfl w.heap.size rfl _ cs1 _ _ G1.out Try.underlying34 rfl U1.out ?_)
    | (refine wpList_load_row rfl 34 (.tmp 5) rfl (w.heap.size + 1) rfl _ cs2 _ _ G2.out Try.underlying34 rfl U2.out ?_)
    | (go_at_call 20; (refine (PP.out _).mono ?_)
       rintro e w3 ⟨A3, c3, rfl, g1, g2, O3, B3⟩
       have B4 : Below w.heap.size w w3 := BW.trans (B3.mono BW.size)
       have P3 : PartAt w3 w3.heap.size ⟨A3, N, c3, T⟩ := ⟨O3.nums, by show N ≤ 10000; omega, hT⟩)
    | (go_at_call 10; ((with_reducible refine (sum2_on B4 P3 (hb.past B4) HF.out).mono ?_); rintro e w5 ⟨rfl, B5⟩)))
  go_ret
  exact ⟨ret_bool (by first | rfl | simp), B5⟩
end Go.Proofs.Ytpdooajcflofiaa.chkC
