/-
  The walk of the fifth statement.
-/
import Derived.Test.YtpdooajcflofiaaChkF
namespace Go.Proofs.Ytpdooajcflofiaa.chkC
open Go.ChangeShapes Go.WideShapes Go.ChangeAt Go.RowKit
open Go.Proofs.Ytpdooajcflofiaa.memC Go.Proofs.Ytpdooajcflofiaa.chkM
set_option linter.unusedVariables false
set_option maxRecDepth 100000 in
theorem anew_long (A : Option Addr) (n c : Nat) (a b : Int) (w : World) (hn : n ≤ 9223372036854775807) (h : 3000 < n ∨ n < 2) :
    Calls Try.prog 7 #[.slice A n c, .int .i64 a, .int .u16 b] w (AliveRet w) := by
  have LL := Lib.hid (long_any A n c w hn)
  by_cases h1 : 3000 < n
  · have d1 : decide (3000 < n) = true := by simpa using h1
    clear h h1
    go_enter Try.func7, Try.ntmps7
    go_wp2_with (first
      | (go_at_call 9; (refine LL.out.mono ?_; rintro e w' ⟨rfl, rfl⟩))
      | (go_at_call 8; (refine (alive_any _).mono ?_; rintro e w' ⟨rfl, hb⟩)))
    go_ret
    exact ⟨rfl, hb⟩
  · have d1 : decide (3000 < n) = false := by simpa using h1
    have h2 : n < 2 := by omega
    have h3 : (n : Int) < 2 := by omega
    clear h h1
    go_enter Try.func7, Try.ntmps7
    go_wp2_with (first
      | (go_at_call 9; (refine LL.out.mono ?_; rintro e w' ⟨rfl, rfl⟩))
      | (go_at_call 8; (refine (alive_any _).mono ?_; rintro e w' ⟨rfl, hb⟩)))
    go_ret
    exact ⟨rfl, hb⟩
theorem or16 {a b : Int} (a0 : 0 ≤ a) (a1 : a ≤ 255) (b0 : 0 ≤ b) (b1 : b ≤ 255) : bits .or .u16 (a * 256) b = a * 256 + b := by
  rw [Go.u16_or _ _ (by omega) (by omega) (by omega) (by omega)]
  have e : (a * 256).toNat = a.toNat <<< 8 := by rw [Nat.shiftLeft_eq]; omega
  rw [e, ← Nat.shiftLeft_add_eq_or_of_lt (by omega), Nat.shiftLeft_eq]; omega
theorem check1_on {w w0 : World} {A : Option Addr} {n c : Nat} {bs : List Int} {f : Int} (B : Below w.heap.size w w0) (h : PartAt w0 w0.heap.size ⟨A, n, c, bs⟩) (hf : 65535 - fo (wsum bs) = f) :
    Calls Try.prog 12 #[.slice (some ⟨w0.heap.size, 0, none⟩) 1 1] (w0.alloc (.cells #[.slice A n c] 24)) (NumRet w f) :=
  (check_any _ 1 1 _ _ (parts1 h 24) (by decide) rfl).mono fun e w' ⟨he, j, hw⟩ =>
    ⟨by rw [he]; exact ret_int (by rw [← hf]; simp [ckZ, numsOf, psum]), by rw [hw]; exact bel_drewN (B.trans ((alloc_below w0 _).mono B.size)) j⟩
/-- a number turned, and the sum reckoned anew -/
theorem turned_anew {S T a b : Int} (hS : 0 ≤ S) (hT : 0 ≤ T) (ha : 0 ≤ a) (ha1 : a ≤ 65535) (hb : 0 ≤ b) (e : T = S - a + b) :
    trZ (65535 - fo S) a b = 65535 - fo T ∨ (trZ (65535 - fo S) a b = 0 ∧ 65535 - fo T = 65535) := by
  have e1 : trZ (65535 - fo S) a b = 65535 - fo (T + 65535) := by
    unfold trZ
    have e2 : 65535 - (65535 - fo S) + (65535 - a) + b = fo S + (65535 - a + b) := by omega
    rw [e2, fo_add hS (by omega)]
    congr 2
    omega
  rw [e1]
  unfold fo
  (repeat' split) <;> omega
theorem set_two {xs : List Int} {k : Nat} {b : Int} (hk : k % 2 = 0) (hl : k + 1 < xs.length) :
    wsum ((xs.set k (b / 256)).set (k + 1) (b % 256)) = wsum xs - (xs.getD k 0 * 256 + xs.getD (k + 1) 0) + b := by
  rw [wsum_set _ _ _ (by simpa using hl), wsum_set _ _ _ (by omega)]
  have e : (xs.set k (b / 256)).getD (k + 1) 0 = xs.getD (k + 1) 0 := by
    simp [List.getD_eq_getElem?_getD]
  have w1 : wt k = 256 := by unfold wt; rw [if_pos hk]
  have w2 : wt (k + 1) = 1 := by unfold wt; rw [if_neg (by omega)]
  rw [e, w1, w2]
  omega
theorem set_byte {xs : List Int} {k : Nat} {b : Int} (h : ∀ x ∈ xs, Byte x) (hb : Byte b) : ∀ x ∈ xs.set k b, Byte x := by
  intro x hx
  rcases List.mem_or_eq_of_mem_set hx with h1 | rfl
  · exact h x h1
  · exact hb
/-- where a number of 16 bits stands -/
theorem place (a : Int) (q : Nat) (hq : 0 < q) : ∃ (r : Int) (t : Nat), a.tmod q = r ∧ -(q : Int) < r ∧ r < q ∧ (r + q).tmod q = (t : Int) ∧ t < q := by
  have h1 := Int.tmod_lt_of_pos a (b := (q : Int)) (by omega)
  have h2 := Int.lt_tmod_of_pos a (b := (q : Int)) (by omega)
  refine ⟨_, ((a.tmod q + q).tmod q).toNat, rfl, by omega, h1, ?_, ?_⟩
  · have := Int.tmod_nonneg (a := a.tmod q + q) (q : Int) (by omega)
    omega
  · have := Int.tmod_lt_of_pos (a.tmod q + q) (b := (q : Int)) (by omega)
    have := Int.tmod_nonneg (a := a.tmod q + q) (q : Int) (by omega)
    omega
set_option maxRecDepth 100000 in
set_option maxHeartbeats 1000000 in
theorem anew_short (A : Option Addr) (n c : Nat) (xs : List Int) (a b : Int) (w : World) (hn : n ≤ 3000) (hn2 : 2 ≤ n) (hA : Nums .u8 w w.heap.size A n xs) (ya : ∀ x ∈ xs, Byte x)
    (a0 : -9223372036854775808 ≤ a) (a1 : a ≤ 9223372036854775807) (b0 : 0 ≤ b) (b1 : b ≤ 65535) :
    Calls Try.prog 7 #[.slice A n c, .int .i64 a, .int .u16 b] w (AliveRet w) := by
  have LL := Lib.hid (long_any A n c w (by omega))
  have d1 : decide (3000 < n) = false := by simpa using hn
  obtain ⟨q, hq⟩ : ∃ q, q = n / 2 := ⟨_, rfl⟩
  have hqz : (n : Int) / 2 = (q : Int) := by omega
  have q1 : 1 ≤ q := by omega
  have q2 : q ≤ 1500 := by omega
  have HQ := Lib.hid hq
  clear hq
  obtain ⟨r, t, hr, r0, r1, ht, t1⟩ := place a q (by omega)
  obtain ⟨k, hk⟩ : ∃ k, k = t * 2 := ⟨_, rfl⟩
  have hkz : (t : Int) * 2 = (k : Int) := by omega
  have hk2 : k % 2 = 0 := by omega
  have hkn : k + 1 < n := by have := HQ.out; omega
  obtain ⟨bA, oA, rfl, hbb, hcell⟩ := hA.cell (i := k) (by omega)
  have hcell2 : w.cell? ⟨bA, oA + (k + 1), none⟩ = some (.int .u8 (xs.getD (k + 1) 0)) := by
    obtain ⟨b', o', e, _, h⟩ := hA.cell (i := k + 1) hkn
    cases e; exact h
  have hlx := hA.len
  have b1' := getD_byte ya (k := k) (by omega)
  have b2' := getD_byte ya (k := k + 1) (by omega)
  have HW := Lib.hid (set_two (xs := xs) (b := b) hk2 (by omega))
  obtain ⟨x, ex⟩ : ∃ x, x = xs.getD k 0 := ⟨_, rfl⟩
  obtain ⟨y, ey⟩ : ∃ y, y = xs.getD (k + 1) 0 := ⟨_, rfl⟩
  rw [← ex] at hcell b1' HW
  rw [← ey] at hcell2 b2' HW
  obtain ⟨x0, x1⟩ := b1'
  obtain ⟨y0, y1⟩ := b2'
  have ob := or16 x0 x1 y0 y1
  have PA : PartAt w w.heap.size ⟨some ⟨bA, oA, none⟩, n, c, xs⟩ := ⟨hA, by show n ≤ 10000; omega, ya⟩
  have HLX := Lib.hid hlx
  have HYA := Lib.hid ya
  have HK2 := Lib.hid hk2
  obtain ⟨i0, hi0, hz0, hz1, hz2⟩ := info_parts byte_info
  have T1 := Lib.hid hi0; have T2 := Lib.hid hz0; have T3 := Lib.hid hz1; have T4 := Lib.hid hz2
  clear hk hk2 hlx ex ey ya hA hi0 hz0 hz1 hz2
  go_enter Try.func7, Try.ntmps7
  go_wp2_with (first
    | (go_at_call 9; (refine LL.out.mono ?_; rintro e w' ⟨rfl, rfl⟩)))
  have i1 : IntKind.i64.wrap ((k : Int) + 1) = (k : Int) + 1 := IntWalk.i64_in _ (by omega)
  have i2 : (0 : Int) ≤ (k : Int) + 1 := by omega
  have i3 : ((k : Int) + 1).toNat = k + 1 := by omega
  have i5 : IntKind.u16.wrap x = x := IntWalk.u16_in _ (by omega)
  have i6 : IntKind.u16.wrap y = y := IntWalk.u16_in _ (by omega)
  have i7 : IntKind.u16.wrap (x * 256) = x * 256 := IntWalk.u16_in _ (by omega)
  go_quiet (fail)
  clear i1 i2 i3 i5 i6 i7 hr ht hkz hqz
  go_wp2_with (first
    | (at_builtin; (refine wpList_appT _ rfl (.const (.slice none 0 0)) (.tmp 47) _ rfl 5 i0 _ 1 Try.underlying24 T1.out T2.out T3.out T4.out rfl w.heap.size _ [] rfl (Own.nil _ _) w.heap.size _ n c xs rfl (PA.nums.drewN _) (by simp only [maxLen, List.length_nil]; omega) (by simp only [List.length_nil]; omega) (Nat.le_refl _) n (by simp) ?_)
       intro A4 c4 w4 g4 g4' O4 B4
       have O4 : Own .u8 5 w4 w.heap.size (.slice A4 n c4) xs := O4
       obtain ⟨g, rfl, hg0, hg1, hgc, hgf⟩ := O4.row (by omega)
       have gc1 := hgc k (by omega)
       have gc2 := hgc (k + 1) hkn
       have gf1 := hgf k
       have gf2 := hgf (k + 1)
       clear hgc hgf))
  have O5 := (O4.stored k (b / 256)).stored (k + 1) (b % 256)
  have B4' : Below w.heap.size w w4 := (bel_drewN (Below.refl _ _) _).trans B4
  have B5 : Below w.heap.size w ((w4.setCell ⟨g, k, none⟩ (.int .u8 (b / 256))).setCell ⟨g, k + 1, none⟩ (.int .u8 (b % 256))) := (B4'.setCell (p := ⟨g, k, none⟩) hg0 _).setCell (p := ⟨g, k + 1, none⟩) hg0 _
  have es : ((w4.setCell ⟨g, k, none⟩ (.int .u8 (b / 256))).setCell ⟨g, k + 1, none⟩ (.int .u8 (b % 256))).heap.size = w4.heap.size := by simp [World.setCell]
  have PC : PartAt _ _ ⟨some ⟨g, 0, none⟩, n, c4, (xs.set k (b / 256)).set (k + 1) (b % 256)⟩ := ⟨O5.nums, by show n ≤ 10000; omega, set_byte (set_byte HYA.out ⟨by omega, by omega⟩) ⟨by omega, by omega⟩⟩
  obtain ⟨f, hf⟩ : ∃ f, f = 65535 - fo (wsum xs) := ⟨_, rfl⟩
  obtain ⟨f2, hf2⟩ : ∃ f2, f2 = 65535 - fo (wsum ((xs.set k (b / 256)).set (k + 1) (b % 256))) := ⟨_, rfl⟩
  have C1 := check1_on (Below.refl _ _) (PA.past B5) hf.symm
  rw [es] at C1
  have hS := (wsum_bd xs HYA.out).1
  have hT := (wsum_bd _ PC.byte).1
  have hturn := turned_anew hS hT (by omega) (by omega) b0 HW.out
  rw [← hf, ← hf2] at hturn
  have fb := fo_bd (wsum xs)
  obtain ⟨f3, hf3⟩ : ∃ f3, f3 = trZ f (x * 256 + y) b := ⟨_, rfl⟩
  rw [← hf3] at hturn
  have TT : ∀ w, Calls Try.prog 13 #[.int .u16 f, .int .u16 (x * 256 + y), .int .u16 b] w fun e w' => e = .returned (.int .u16 f3) ∧ w = w' := by
    rw [hf3]; exact fun w => turn_any f (x * 256 + y) b w (by omega) (by omega) (by omega) (by omega) b0 b1
  have TH := Lib.hid TT
  have CH := Lib.hid C1
  have HR := Lib.hid hturn
  have HF2 := Lib.hid hf2.symm
  have PCH := Lib.hid PC
  clear hf hf2 hf3 C1 TT hturn es PC hS hT fb
  go_wp2_with (first
    | (go_at_call 12; (with_reducible refine CH.out.mono ?_); rintro e w6 ⟨rfl, B6⟩
       have P6 := PCH.out.past B6
       have B7 : Below w.heap.size w w6 := B5.trans (B6.mono B5.size))
    | (go_at_call 13; ((with_reducible refine (TH.out _).mono ?_); rintro e w' ⟨rfl, rfl⟩)))
  have D1 := Lib.hid (check1_on B7 P6 HF2.out)
  clear B5 B6 P6
  rcases HR.out with e | ⟨e1, e2⟩
  · subst e
    go_wp2_with (first
      | (go_at_call 12; ((with_reducible refine D1.out.mono ?_); rintro e w8 ⟨rfl, B8⟩))
      | (go_at_call 8; (refine (alive_past B8).mono ?_; rintro e w' ⟨rfl, hb⟩)))
    go_ret
    exact ⟨rfl, hb⟩
  · subst e1 e2
    go_wp2_with (first
      | (go_at_call 12; ((with_reducible refine D1.out.mono ?_); rintro e w8 ⟨rfl, B8⟩))
      | (go_at_call 8; (refine (alive_past B8).mono ?_; rintro e w' ⟨rfl, hb⟩)))
    go_ret
    exact ⟨rfl, hb⟩
theorem anew_walk (A : Option Addr) (n c : Nat) (xs : List Int) (a b : Int) (w : World) (hn : n ≤ 9223372036854775807) (hA : Nums .u8 w w.heap.size A n xs) (ya : ∀ x ∈ xs, Byte x)
    (a0 : -9223372036854775808 ≤ a) (a1 : a ≤ 9223372036854775807) (b0 : 0 ≤ b) (b1 : b ≤ 65535) :
    Calls Try.prog 7 #[.slice A n c, .int .i64 a, .int .u16 b] w (AliveRet w) := by
  by_cases h : 3000 < n ∨ n < 2
  · exact anew_long A n c a b w hn h
  · exact anew_short A n c xs a b w (by omega) (by omega) hA ya a0 a1 b0 b1
end Go.Proofs.Ytpdooajcflofiaa.chkC
