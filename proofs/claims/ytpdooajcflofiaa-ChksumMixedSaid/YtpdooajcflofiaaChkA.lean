/-
  What fold, add, the two Turns, total and long do.
-/
import Derived.Test.YtpdooajcflofiaaChkM
import Derived.ProofKit
import Derived.Outline
import Derived.Deep.QuietTactic
import Derived.BigQuiet
import Derived.Lib.Hide
import Derived.IntWalk
import Derived.Laws.BitsAllLaws
namespace Go.Proofs.Ytpdooajcflofiaa.chkC
open Go.ChangeShapes Go.WideShapes Go.ChangeAt Go.RowKit
open Go.Proofs.Ytpdooajcflofiaa.memC Go.Proofs.Ytpdooajcflofiaa.chkM
set_option linter.unusedVariables false
theorem ret_int {k : IntKind} {a b : Int} (h : a = b) : Ending.returned (.int k a) = .returned (.int k b) := by rw [h]
theorem ret_bool {a b : Bool} (h : a = b) : Ending.returned (.bool a) = .returned (.bool b) := by rw [h]
theorem val_int {k : IntKind} {a b : Int} (h : a = b) : Value.int k a = .int k b := by rw [h]
theorem and_full {x : Int} (h0 : 0 ≤ x) (h1 : x ≤ 18446744073709551615) : bits .and .u64 x 65535 = x % 65536 := by
  rw [Go.u64_and x 65535 h0 (by omega) (by omega) (by omega)]
  have e : (65535 : Int).toNat = 2 ^ 16 - 1 := by decide
  rw [e, Nat.and_two_pow_sub_one_eq_mod]
  omega
theorem xor_full {n : Nat} (h : n < 65536) : 65535 ^^^ n = 65535 - n := by
  have h1 := congrArg BitVec.toNat (BitVec.allOnes_xor (x := BitVec.ofNat 16 n))
  rw [BitVec.toNat_not, BitVec.toNat_xor, BitVec.toNat_allOnes, BitVec.toNat_ofNat, Nat.mod_eq_of_lt (show n < 2 ^ 16 by omega)] at h1
  simpa using h1
theorem not16 {c : Int} (h0 : 0 ≤ c) (h1 : c ≤ 65535) : bits .xor .u16 IntKind.u16.max c = 65535 - c := by
  have e : IntKind.u16.max = (65535 : Int) := rfl
  rw [e, Go.u16_xor 65535 c (by omega) (by omega) h0 (by omega)]
  have := xor_full (n := c.toNat) (by omega)
  have e2 : (65535 : Int).toNat = 65535 := rfl
  rw [e2, this]; omega
def FoR (s : Int) (t : Value) : Prop := ∃ x : Int, 0 ≤ x ∧ x ≤ 9223372036854775807 ∧ fo x = fo s ∧ t = .int .u64 x
theorem fold_any (s : Int) (w : World) (h0 : 0 ≤ s) (h1 : s ≤ 9223372036854775807) :
    Calls Try.prog 17 #[.int .u64 s] w fun e w' => e = .returned (.int .u16 (fo s)) ∧ w = w' := by
  go_enter Try.func17, Try.ntmps17
  go_wp2
  go_loop [0] (fun t => FoR s t) (fun t => (intOf t).toNat)
  case atStart => exact ⟨s, h0, h1, rfl, rfl⟩
  case round =>
    obtain ⟨x, hx0, hx1, hx, rfl⟩ := hrel
    have HX := Lib.hid hx
    clear hx
    by_cases hlt : 65535 < x
    · have ha := and_full (x := x) hx0 (by omega)
      go_wp2
      go_round
      case rel => exact ⟨x / 65536 + x % 65536, by omega, by omega, (fo_step hlt).trans HX.out, val_int (by omega)⟩
      case measure => simp [intOf]; omega
    · go_wp2
      go_ret
      exact ⟨ret_int (by rw [← HX.out, fo_id hx0 (by omega)]), rfl⟩
theorem add_any (a b : Int) (w : World) (a0 : 0 ≤ a) (a1 : a ≤ 65535) (b0 : 0 ≤ b) (b1 : b ≤ 65535) :
    Calls Try.prog 19 #[.int .u16 a, .int .u16 b] w fun e w' => e = .returned (.int .u16 (fo (a + b))) ∧ w = w' := by
  by_cases hlt : 65535 < a + b
  · have HF := Lib.hid (show fo (a + b) = a + b - 65535 by unfold fo; split <;> omega)
    go_enter Try.func19, Try.ntmps19
    go_wp2
    go_ret
    exact ⟨ret_int (by rw [HF.out]; omega), rfl⟩
  · have HF := Lib.hid (show fo (a + b) = a + b from fo_id (by omega) (by omega))
    go_enter Try.func19, Try.ntmps19
    go_wp2
    go_ret
    exact ⟨ret_int (by rw [HF.out]), rfl⟩
/-- what is turned -/
def trZ (c a b : Int) : Int := 65535 - fo ((65535 - c) + (65535 - a) + b)
theorem turn_any (c a b : Int) (w : World) (c0 : 0 ≤ c) (c1 : c ≤ 65535) (a0 : 0 ≤ a) (a1 : a ≤ 65535) (b0 : 0 ≤ b) (b1 : b ≤ 65535) :
    Calls Try.prog 13 #[.int .u16 c, .int .u16 a, .int .u16 b] w fun e w' => e = .returned (.int .u16 (trZ c a b)) ∧ w = w' := by
  have n1 := not16 c0 c1
  have n2 := not16 a0 a1
  have ee : trZ c a b = 65535 - fo ((65535 - c) + (65535 - a) + b) := rfl
  obtain ⟨p, ep⟩ : ∃ p, p = 65535 - c := ⟨_, rfl⟩
  obtain ⟨q, eq⟩ : ∃ q, q = 65535 - a := ⟨_, rfl⟩
  rw [← ep] at n1 ee
  rw [← eq] at n2 ee
  have p0 : 0 ≤ p := by omega
  have p1 : p ≤ 65535 := by omega
  have q0 : 0 ≤ q := by omega
  have q1 : q ≤ 65535 := by omega
  have fb := fo_bd (p + q + b)
  obtain ⟨f, ef⟩ : ∃ f, f = fo (p + q + b) := ⟨_, rfl⟩
  rw [← ef] at fb ee
  obtain ⟨fb0, fb1⟩ := fb
  have n3 := not16 fb0 fb1
  have F : ∀ w, Calls Try.prog 17 #[.int .u64 (p + q + b)] w fun e w' => e = .returned (.int .u16 f) ∧ w = w' := by rw [ef]; exact fun w => fold_any _ w (by omega) (by omega)
  have FF := Lib.hid F
  have E := Lib.hid ee
  clear F ef ee ep eq
  have wp : IntKind.u64.wrap p = p := IntWalk.u64_in _ (by omega)
  have wq : IntKind.u64.wrap q = q := IntWalk.u64_in _ (by omega)
  have ws : IntKind.u64.wrap (p + q) = p + q := IntWalk.u64_in _ (by omega)
  have wr : IntKind.u64.wrap (p + q + b) = p + q + b := IntWalk.u64_in _ (by omega)
  go_enter Try.func13, Try.ntmps13
  go_wp2_with (go_at_call 17; ((with_reducible refine (FF.out _).mono ?_); rintro e w' ⟨rfl, rfl⟩))
  go_ret
  exact ⟨ret_int E.out.symm, rfl⟩
theorem trZ_bd (c a b : Int) : 0 ≤ trZ c a b ∧ trZ c a b ≤ 65535 := by unfold trZ; have := fo_bd ((65535 - c) + (65535 - a) + b); omega
theorem turnref_any (c a b : Int) (w : World) (c0 : 0 ≤ c) (c1 : c ≤ 65535) (a0 : 0 ≤ a) (a1 : a ≤ 65535) (b0 : 0 ≤ b) (b1 : b ≤ 65535) :
    Calls Try.prog 14 #[.int .u16 c, .int .u16 a, .int .u16 b] w fun e w' => e = .returned (.int .u16 (trZ c a b)) ∧ w = w' := by
  have n1 := not16 c0 c1
  have n2 := not16 a0 a1
  have ee : trZ c a b = 65535 - fo (fo ((65535 - c) + (65535 - a)) + b) := by unfold trZ; rw [fo_add (by omega) (by omega)]
  obtain ⟨p, ep⟩ : ∃ p, p = 65535 - c := ⟨_, rfl⟩
  obtain ⟨q, eq⟩ : ∃ q, q = 65535 - a := ⟨_, rfl⟩
  rw [← ep] at n1 ee
  rw [← eq] at n2 ee
  have p0 : 0 ≤ p := by omega
  have p1 : p ≤ 65535 := by omega
  have q0 : 0 ≤ q := by omega
  have q1 : q ≤ 65535 := by omega
  have fb := fo_bd (p + q)
  obtain ⟨f, ef⟩ : ∃ f, f = fo (p + q) := ⟨_, rfl⟩
  rw [← ef] at fb ee
  obtain ⟨fb0, fb1⟩ := fb
  have gb := fo_bd (f + b)
  obtain ⟨g, eg⟩ : ∃ g, g = fo (f + b) := ⟨_, rfl⟩
  rw [← eg] at gb ee
  obtain ⟨gb0, gb1⟩ := gb
  have n3 := not16 gb0 gb1
  have F : ∀ w, Calls Try.prog 19 #[.int .u16 p, .int .u16 q] w fun e w' => e = .returned (.int .u16 f) ∧ w = w' := by rw [ef]; exact fun w => add_any _ _ w (by omega) (by omega) (by omega) (by omega)
  have G : ∀ w, Calls Try.prog 19 #[.int .u16 f, .int .u16 b] w fun e w' => e = .returned (.int .u16 g) ∧ w = w' := by rw [eg]; exact fun w => add_any _ _ w (by omega) (by omega) (by omega) (by omega)
  have FF := Lib.hid F
  have GG := Lib.hid G
  have E := Lib.hid ee
  clear F G ef eg ee ep eq
  go_enter Try.func14, Try.ntmps14
  go_wp2_with (go_at_call 19; ((first | (with_reducible refine (FF.out _).mono ?_) | (with_reducible refine (GG.out _).mono ?_)); rintro e w' ⟨rfl, rfl⟩))
  go_ret
  exact ⟨ret_int E.out.symm, rfl⟩
theorem or_bytes {a b : Int} (a0 : 0 ≤ a) (a1 : a ≤ 255) (b0 : 0 ≤ b) (b1 : b ≤ 255) : bits .or .u64 (a * 256) b = a * 256 + b := by
  rw [Go.u64_or _ _ (by omega) (by omega) (by omega) (by omega)]
  have e : (a * 256).toNat = a.toNat <<< 8 := by rw [Nat.shiftLeft_eq]; omega
  rw [e, ← Nat.shiftLeft_add_eq_or_of_lt (by omega), Nat.shiftLeft_eq]; omega
theorem getD_byte {bs : List Int} (hy : ∀ x ∈ bs, Byte x) {k : Nat} (hk : k < bs.length) : Byte (bs.getD k 0) := by
  rw [List.getD_eq_getElem?_getD, List.getElem?_eq_getElem hk]; exact hy _ (List.getElem_mem _)
theorem take_byte {bs : List Int} (hy : ∀ x ∈ bs, Byte x) (k : Nat) : ∀ x ∈ bs.take k, Byte x := fun x hx => hy x (List.mem_of_mem_take hx)
def TotR (bs : List Int) (k : Nat) (t : Value) : Prop := ∃ s : Int, s = wsum (bs.take k) ∧ t = .int .u64 s
set_option maxHeartbeats 1000000 in
theorem total_any (A : Option Addr) (n c : Nat) (bs : List Int) (w : World) (hb : Nums .u8 w w.heap.size A n bs) (hn : n ≤ 10000) (hy : ∀ x ∈ bs, Byte x) :
    Calls Try.prog 18 #[.slice A n c] w fun e w' => e = .returned (.int .u64 (wsum bs)) ∧ ∃ j, w' = w.drewN j := by
  have hl := hb.len
  obtain ⟨m, hm⟩ : ∃ m, m = n - n % 2 := ⟨_, rfl⟩
  have hmz : (n : Int) - (n : Int) % 2 = (m : Int) := by omega
  have hm2 : m % 2 = 0 := by omega
  have hmn : m ≤ n := by omega
  have HB := Lib.hid hb
  have HM := Lib.hid hm
  have HM2 := Lib.hid hm2
  have HL := Lib.hid hl
  clear hb hm hm2 hl
  go_enter Try.func18, Try.ntmps18
  go_wp2_with fail
  go_loopw [3, 5] (fun t i wr => ∃ k : Nat, k ≤ m ∧ Hid (k % 2 = 0) ∧ i = .int .i64 k ∧ TotR bs k t ∧ ∃ j, wr = w.drewN j) (fun _ i _ => m - (intOf i).toNat)
  case atStart => exact ⟨0, Nat.zero_le _, Lib.hid rfl, rfl, ⟨0, by simp [wsum], rfl⟩, 0, rfl⟩
  case round =>
    obtain ⟨k, hk, hk2, rfl, ⟨s, hs, rfl⟩, j, hw⟩ := hrel
    have HS := Lib.hid hs
    have HW := Lib.hid hw
    have hsb := wsum_bd (bs.take k) (take_byte hy k)
    rw [← hs, List.length_take, HL.out] at hsb
    obtain ⟨s0, s1⟩ := hsb
    have s2 : s ≤ 655350000 := by omega
    clear s1 hs hw
    by_cases hlt : k < m
    · have hk1 : k + 1 < n := by have := hk2.out; have := HM2.out; omega
      obtain ⟨b, o, rfl, hbb, hcell⟩ := HB.out.cell (i := k) (by omega)
      have hcell2 : w.cell? ⟨b, o + (k + 1), none⟩ = some (.int .u8 (bs.getD (k + 1) 0)) := by
        obtain ⟨b', o', e, _, h⟩ := HB.out.cell (i := k + 1) hk1
        cases e; exact h
      have b1 := getD_byte hy (k := k) (by rw [HL.out]; omega)
      have b2 := getD_byte hy (k := k + 1) (by rw [HL.out]; omega)
      have hts := wsum_two bs k hk2.out (by rw [HL.out]; omega)
      rw [← HS.out] at hts
      have HT := Lib.hid hts
      clear hts
      generalize bs.getD k 0 = x at *
      generalize bs.getD (k + 1) 0 = y at *
      obtain ⟨x0, x1⟩ := b1
      obtain ⟨y0, y1⟩ := b2
      have ob := or_bytes x0 x1 y0 y1
      have cc : wr.cell? ⟨b, o + k, none⟩ = some (.int .u8 x) := by rw [HW.out]; exact hcell
      have cc2 : wr.cell? ⟨b, o + (k + 1), none⟩ = some (.int .u8 y) := by rw [HW.out]; exact hcell2
      clear hcell hcell2
      have i1 : IntKind.i64.wrap ((k : Int) + 1) = (k : Int) + 1 := IntWalk.i64_in _ (by omega)
      have i2 : (0 : Int) ≤ (k : Int) + 1 := by omega
      have i3 : ((k : Int) + 1).toNat = k + 1 := by omega
      have i4 : IntKind.u64.wrap (s + (x * 256 + y)) = s + (x * 256 + y) := IntWalk.u64_in _ (by omega)
      have i5 : IntKind.u64.wrap x = x := IntWalk.u64_in _ (by omega)
      have i6 : IntKind.u64.wrap y = y := IntWalk.u64_in _ (by omega)
      have i7 : IntKind.u64.wrap (x * 256) = x * 256 := IntWalk.u64_in _ (by omega)
      go_wp2_with fail
      go_quiet (fail)
      clear i1 i2 i3 i4 i5 i6 i7
      go_wp2_with fail
      go_roundw
      case rel =>
        refine ⟨k + 2, by have := hk2.out; have := HM2.out; omega, Lib.hid (by have := hk2.out; omega), by go_num, ⟨_, HT.out.symm, ?_⟩, ?_⟩
        · rfl
        · rw [HW.out]; exact ⟨_, World.drewN_drewN _ _ _⟩
      case measure => simp [intOf]; omega
    · have e : k = m := by omega
      subst e
      by_cases hod : k < n
      · obtain ⟨b, o, rfl, hbb, hcell⟩ := HB.out.cell hod
        have b1 := getD_byte hy (k := k) (by rw [HL.out]; omega)
        have hts := wsum_last bs k hk2.out (by have := HM.out; rw [HL.out]; omega)
        rw [← HS.out] at hts
        have HT := Lib.hid hts
        clear hts
        generalize bs.getD k 0 = x at *
        obtain ⟨x0, x1⟩ := b1
        have cc : wr.cell? ⟨b, o + k, none⟩ = some (.int .u8 x) := by rw [HW.out]; exact hcell
        clear hcell
        go_wp2_with fail
        go_ret
        exact ⟨ret_int HT.out.symm, j, HW.out⟩
      · have hts : s = wsum bs := by rw [HS.out, List.take_of_length_le (by rw [HL.out]; omega)]
        have HT := Lib.hid hts
        clear hts
        go_wp2_with fail
        go_ret
        exact ⟨ret_int HT.out, j, HW.out⟩
end Go.Proofs.Ytpdooajcflofiaa.chkC
