/-
  The walk of the fourth statement.
-/
import Derived.Test.YtpdooajcflofiaaChkE
import Derived.Test.YtpdooajcflofiaaApp
namespace Go.Proofs.Ytpdooajcflofiaa.chkC
open Go.ChangeShapes Go.WideShapes Go.ChangeAt Go.RowKit
open Go.Proofs.Ytpdooajcflofiaa.memC Go.Proofs.Ytpdooajcflofiaa.chkM
set_option linter.unusedVariables false
theorem byte_info : (Try.prog.info? 5).map (fun i => (i.zero, i.size, i.bytes)) = some (some (.int .u8 0), 1, 1) := by kernel_rfl
set_option maxRecDepth 100000 in
theorem mixed_long (A : Option Addr) (n c : Nat) (A2 : Option Addr) (n2 c2 : Nat) (w : World) (hn : n ≤ 9223372036854775807) (hn2 : n2 ≤ 9223372036854775807) (h : 3000 < n ∨ 3000 < n2) :
    Calls Try.prog 6 #[.slice A n c, .slice A2 n2 c2] w (AliveRet w) := by
  by_cases h1 : 3000 < n
  · have d1 : decide (3000 < n) = true := by simpa using h1
    clear h h1
    go_enter Try.func6, Try.ntmps6
    go_wp2_with (first
      | (go_at_call 9; (refine (long_any A n c _ hn).mono ?_; rintro e w' ⟨rfl, rfl⟩))
      | (go_at_call 8; (refine (alive_any _).mono ?_; rintro e w' ⟨rfl, hb⟩)))
    go_ret
    exact ⟨rfl, hb⟩
  · have h2 : 3000 < n2 := by omega
    have d1 : decide (3000 < n) = false := by simpa using h1
    have d2 : decide (3000 < n2) = true := by simpa using h2
    clear h h1 h2
    go_enter Try.func6, Try.ntmps6
    go_wp2_with (first
      | (go_at_call 9; ((first | (with_reducible refine (long_any A n c _ hn).mono ?_) | (with_reducible refine (long_any A2 n2 c2 _ hn2).mono ?_)); rintro e w' ⟨rfl, rfl⟩))
      | (go_at_call 8; (refine (alive_any _).mono ?_; rintro e w' ⟨rfl, hb⟩)))
    go_ret
    exact ⟨rfl, hb⟩
/-- a number, and what was there stands -/
def NumRet (w : World) (f : Int) (e : Ending) (w' : World) : Prop := e = .returned (.int .u16 f) ∧ Below w.heap.size w w'
theorem sum1_on {w w0 : World} {A : Option Addr} {n c : Nat} {bs : List Int} {f : Int} (B : Below w.heap.size w w0) (h : PartAt w0 w0.heap.size ⟨A, n, c, bs⟩) (hf : fo (wsum bs) = f) :
    Calls Try.prog 10 #[.slice (some ⟨w0.heap.size, 0, none⟩) 1 1] (w0.alloc (.cells #[.slice A n c] 24)) (NumRet w f) :=
  (sum_any _ 1 1 _ _ (parts1 h 24) (by decide) rfl).mono fun e w' ⟨he, j, hw⟩ =>
    ⟨by rw [he]; exact ret_int (by rw [← hf]; exact congrArg fo (by simp [numsOf, psum])), by rw [hw]; exact bel_drewN (B.trans ((alloc_below w0 _).mono B.size)) j⟩
theorem sum2_on {w w0 : World} {A A' : Option Addr} {n c n' c' : Nat} {bs bs' : List Int} {f : Int} (B : Below w.heap.size w w0) (h : PartAt w0 w0.heap.size ⟨A, n, c, bs⟩) (h' : PartAt w0 w0.heap.size ⟨A', n', c', bs'⟩) (hf : fo (wsum bs + wsum bs') = f) :
    Calls Try.prog 10 #[.slice (some ⟨w0.heap.size, 0, none⟩) 2 2] (w0.alloc (.cells #[.slice A n c, .slice A' n' c'] 24)) (NumRet w f) :=
  (sum_any _ 2 2 _ _ (parts2 h h' 24) (by decide) rfl).mono fun e w' ⟨he, j, hw⟩ =>
    ⟨by rw [he]; exact ret_int (by rw [← hf]; exact congrArg fo (by simp [numsOf, psum])), by rw [hw]; exact bel_drewN (B.trans ((alloc_below w0 _).mono B.size)) j⟩
theorem PartAt.past {w w0 : World} {p : Part} (h : PartAt w w.heap.size p) (B : Below w.heap.size w w0) : PartAt w0 w0.heap.size p := h.below B B.size
theorem take_len {w : World} {B : Nat} {A : Option Addr} {n m : Nat} {xs : List Int} (h : Nums .u8 w B A n xs) (hm : m ≤ n) : (xs.take m).length = m := (h.upto hm).len
set_option maxRecDepth 100000 in
set_option maxHeartbeats 1000000 in
theorem mixed_short (A : Option Addr) (n c : Nat) (xs : List Int) (A2 : Option Addr) (n2 c2 : Nat) (ys : List Int) (w : World) (hn : n ≤ 3000) (hn2 : n2 ≤ 3000) (hnc : n ≤ c) (hc : c ≤ 9223372036854775807)
    (hA : Nums .u8 w w.heap.size A n xs) (hB : Nums .u8 w w.heap.size A2 n2 ys) (ya : ∀ x ∈ xs, Byte x) (yb : ∀ x ∈ ys, Byte x) :
    Calls Try.prog 6 #[.slice A n c, .slice A2 n2 c2] w (AliveRet w) := by
  have d1 : decide (3000 < n) = false := by simpa using hn
  have d2 : decide (3000 < n2) = false := by simpa using hn2
  obtain ⟨m, hm⟩ : ∃ m, m = n / 2 * 2 := ⟨_, rfl⟩
  have hmz : (n : Int) / 2 * 2 = (m : Int) := by omega
  have hmn : m ≤ n := by omega
  have hmc : m ≤ c := by omega
  have hm2 : m % 2 = 0 := by omega
  have LL := Lib.hid (fun w => long_any A n c w (by omega))
  have LL2 := Lib.hid (fun w => long_any A2 n2 c2 w (by omega))
  have PA : PartAt w w.heap.size ⟨A, m, c, xs.take m⟩ := ⟨hA.upto hmn, by show m ≤ 10000; omega, take_byte ya m⟩
  have PB : PartAt w w.heap.size ⟨A2, n2, c2, ys⟩ := ⟨hB, by show n2 ≤ 10000; omega, yb⟩
  obtain ⟨zs, hz⟩ : ∃ zs, zs = xs.take m := ⟨_, rfl⟩
  have yz : ∀ x ∈ zs, Byte x := by rw [hz]; exact take_byte ya m
  rw [← hz] at PA
  have lz : zs.length = m := PA.nums.len
  obtain ⟨f, hf⟩ : ∃ f, f = fo (wsum zs + wsum ys) := ⟨_, rfl⟩
  have HF := Lib.hid hf.symm
  have HF2 := Lib.hid (show fo (wsum ys + wsum zs) = f by rw [hf, Int.add_comm])
  have HF3 := Lib.hid (show fo (wsum (zs ++ ys)) = f by rw [hf, wsum_append _ _ (by rw [lz]; exact hm2)])
  have LZ := Lib.hid lz
  obtain ⟨i0, hi0, hz0, hz1, hz2⟩ := info_parts byte_info
  have T1 := Lib.hid hi0; have T2 := Lib.hid hz0; have T3 := Lib.hid hz1; have T4 := Lib.hid hz2
  have HYA := Lib.hid yz
  have HYB := Lib.hid yb
  clear hm hm2 hz hf lz hi0 hz0 hz1 hz2 ya yb yz hA hB
  go_enter Try.func6, Try.ntmps6
  go_wp2_with (first
    | (go_at_call 9; ((first | (with_reducible refine (LL.out _).mono ?_) | (with_reducible refine (LL2.out _).mono ?_)); rintro e w' ⟨rfl, rfl⟩)))
  go_wp2_with (go_at_call 10;  ((with_reducible refine (sum2_on (Below.refl _ _) PA PB HF.out).mono ?_); rintro e w1 ⟨rfl, B1⟩))
  go_wp2_with (go_at_call 10; ((with_reducible refine (sum2_on B1 (PB.past B1) (PA.past B1) HF2.out).mono ?_); rintro e w2 ⟨rfl, B2⟩))
  clear B1
  go_wp2_with (first
    | (go_at_call 10; ((with_reducible refine (sum2_on B2 (PA.past B2) (PB.past B2) HF.out).mono ?_); rintro e w3 ⟨rfl, B3⟩))
    | (at_builtin; (refine wpList_appG _ (by rfl) (.const (.slice none 0 0)) (.tmp 32) _ rfl 5 i0 _ 1 Try.underlying24 T1.out T2.out T3.out T4.out rfl w.heap.size _ [] rfl (Own.nil _ _) w3.heap.size A m c zs rfl (PA.past B3).nums (by simp only [maxLen, List.length_nil]; omega) (by simp only [List.length_nil]; omega) B3.size m (by simp) ?_)
       intro A4 c4 w4 g4 g4' O4 B4
       have O4 : Own .u8 5 w4 w.heap.size (.slice A4 m c4) zs := O4
       have B5 := B3.trans B4)
    | (at_builtin; (refine wpList_appG _ (by rfl) (.tmp 33) (.tmp 34) _ rfl 5 i0 _ 1 Try.underlying24 T1.out T2.out T3.out T4.out rfl w.heap.size _ zs rfl O4 w4.heap.size A2 n2 c2 ys rfl (PB.past B5).nums (by rw [LZ.out]; simp only [maxLen]; omega) (by rw [LZ.out]; omega) B5.size (m + n2) (by rw [LZ.out]) ?_)
       intro A6 c6 w6 g6 g6' O6 B6
       have B7 := B5.trans B6
       have P6 : PartAt w6 w6.heap.size ⟨A6, m + n2, c6, zs ++ ys⟩ := ⟨O6.nums, by show m + n2 ≤ 10000; omega, fun x hx => (List.mem_append.1 hx).elim (HYA.out x) (HYB.out x)⟩)
    | (go_at_call 10; ((with_reducible refine (sum1_on B7 P6 HF3.out).mono ?_); rintro e w8 ⟨rfl, B8⟩))
    | (go_at_call 8; (refine (alive_past B8).mono ?_; rintro e w' ⟨rfl, hb⟩)))
  go_ret
  exact ⟨rfl, hb⟩
theorem mixed_walk (A : Option Addr) (n c : Nat) (xs : List Int) (A2 : Option Addr) (n2 c2 : Nat) (ys : List Int) (w : World) (hnc : n ≤ c) (hc : c ≤ 9223372036854775807) (hn2 : n2 ≤ 9223372036854775807)
    (hA : Nums .u8 w w.heap.size A n xs) (hB : Nums .u8 w w.heap.size A2 n2 ys) (ya : ∀ x ∈ xs, Byte x) (yb : ∀ x ∈ ys, Byte x) :
    Calls Try.prog 6 #[.slice A n c, .slice A2 n2 c2] w (AliveRet w) := by
  by_cases h : 3000 < n ∨ 3000 < n2
  · exact mixed_long A n c A2 n2 c2 w (by omega) hn2 h
  · exact mixed_short A n c xs A2 n2 c2 ys w (by omega) (by omega) hnc hc hA hB ya yb
end Go.Proofs.Ytpdooajcflofiaa.chkC
