/-
  AES: bytes multiplied.
-/
import Derived.Test.YtknemkekmahdmaaAesA
namespace Go.Proofs.Ytknemkekmahdmaa.aesC
open Go.ChangeShapes Go.WideShapes Go.ChangeAt Go.RowKit
open Go.Proofs.Ytknemkekmahdmaa.memC Go.Proofs.Ytknemkekmahdmaa.genC Go.Proofs.Ytknemkekmahdmaa.aesM
set_option linter.unusedVariables false
def Same (w : World) (v : Value) (e : Ending) (w' : World) : Prop := e = .returned v ∧ w = w'
theorem double_any (c : Nat) (w : World) (h : c < 256) : Calls Try.prog 34 #[.int .u8 (c : Int)] w (Same w (.int .u8 ((dbl c : Nat) : Int))) := by
  have hz : (c : Int) < 256 := by omega
  go_enter Try.func34, Try.ntmps34
  go_wp2_with fail
  go_ret
  refine ⟨ret_int ?_, rfl⟩
  unfold dbl
  rw [show (c : Int) * (2 : Int) % (256 : Int) = (((c <<< 1) % 256 : Nat) : Int) by rw [Nat.shiftLeft_eq]; omega, show (c : Int) / (128 : Int) * (27 : Int) = (((c >>> 7) * 27 : Nat) : Int) by rw [Nat.shiftRight_eq_div_pow]; omega]
  exact xor_b (Nat.mod_lt _ (by decide)) (seven_lt h)
theorem dbl_high {x : Nat} (h : x < 256) (h1 : 128 ≤ x) : bits .xor .u8 ((x : Int) * 2 % 256) 27 = ((dbl x : Nat) : Int) := by
  unfold dbl
  rw [show (x : Int) * (2 : Int) % (256 : Int) = (((x <<< 1) % 256 : Nat) : Int) by rw [Nat.shiftLeft_eq]; omega, show x >>> 7 = 1 by rw [Nat.shiftRight_eq_div_pow]; omega]
  exact xor_b (b := 27) (Nat.mod_lt _ (by decide)) (by decide)
theorem dbl_low {x : Nat} (h1 : x < 128) : (x : Int) * 2 % 256 = ((dbl x : Nat) : Int) := by
  unfold dbl
  rw [show x >>> 7 = 0 by rw [Nat.shiftRight_eq_div_pow]; omega, Nat.zero_mul, Nat.xor_zero, Nat.shiftLeft_eq]
  omega
theorem and_one {q : Nat} (h : q < 256) : bits .and .u8 (q : Int) 1 = ((q % 2 : Nat) : Int) := by
  have := Go.u8_and_nat q 1 h (by decide)
  rw [Nat.and_one_is_mod] at this
  exact this
theorem times_any (a b : Nat) (w : World) (ha : a < 256) (hb : b < 256) : Calls Try.prog 27 #[.int .u8 (a : Int), .int .u8 (b : Int)] w (Same w (.int .u8 ((tms a b : Nat) : Int))) := by
  go_enter Try.func27, Try.ntmps27
  go_wp2_with fail
  go_loopw [0, 5, 6] (fun x n i wr => ∃ k : Nat, k ≤ 8 ∧ i = .int .i64 k ∧ x = .int .u8 ((dblN k a : Nat) : Int) ∧ n = .int .u8 ((tmsN a b k : Nat) : Int) ∧ w = wr) (fun _ _ i _ => 8 - (intOf i).toNat)
  case atStart => exact ⟨0, by omega, rfl, rfl, rfl, rfl⟩
  case round =>
    obtain ⟨k, hk, rfl, rfl, rfl, rfl⟩ := hrel
    have hx := dblN_lt ha k
    have hn := tmsN_lt ha b k
    by_cases hlt : k < 8
    · have hkz : (k : Int) < 8 := by omega
      obtain ⟨q, hq⟩ : ∃ q, q = b >>> k := ⟨_, rfl⟩
      have hqb : q < 256 := by rw [hq]; exact Nat.lt_of_le_of_lt (Nat.shiftRight_le _ _) hb
      have hqz : (b : Int) / 2 ^ k = (q : Int) := by rw [hq, Nat.shiftRight_eq_div_pow]; norm_cast
      have hand := and_one hqb
      obtain ⟨r, hr⟩ : ∃ r, r = q % 2 := ⟨_, rfl⟩
      have hr2 : r = 0 ∨ r = 1 := by omega
      rw [← hr] at hand
      have HD := Lib.hid (show dblN (k + 1) a = dbl (dblN k a) from rfl)
      have HT := Lib.hid (show tmsN a b (k + 1) = tmsN a b k ^^^ r * dblN k a by rw [hr, hq]; rfl)
      obtain ⟨x, hxe⟩ : ∃ x, x = dblN k a := ⟨_, rfl⟩
      obtain ⟨n, hne⟩ : ∃ n, n = tmsN a b k := ⟨_, rfl⟩
      obtain ⟨x2, hx2e⟩ : ∃ x, x = dblN (k + 1) a := ⟨_, rfl⟩
      obtain ⟨n2, hn2e⟩ : ∃ n, n = tmsN a b (k + 1) := ⟨_, rfl⟩
      rw [← hx2e, ← hxe] at HD
      rw [← hn2e, ← hne, ← hxe] at HT
      rw [← hxe] at hx
      rw [← hne] at hn
      rw [← hxe, ← hne]
      have E1 := Lib.hid hx2e
      have E2 := Lib.hid hn2e
      clear hr hq hxe hne hx2e hn2e
      have hd : 128 ≤ x → bits .xor .u8 ((x : Int) * 2 % 256) 27 = ((x2 : Nat) : Int) := fun h => by rw [HD.out]; exact dbl_high hx h
      have hd2 : x < 128 → (x : Int) * 2 % 256 = ((x2 : Nat) : Int) := fun h => by rw [HD.out]; exact dbl_low h
      rcases hr2 with rfl | rfl
      · have e2 : n2 = n := by rw [HT.out, Nat.zero_mul, Nat.xor_zero]
        subst e2
        by_cases hh : 128 ≤ x
        · have hhz : (128 : Int) ≤ (x : Int) := by omega
          have hd := hd hh
          clear hd2 HD HT
          go_wp2_with fail
          go_roundw
          case rel => exact ⟨k + 1, by omega, by go_num, by rw [E1.out], by rw [E2.out], trivial⟩
          case measure => simp [intOf]; omega
        · have hhz : ¬ (128 : Int) ≤ (x : Int) := by omega
          have hl := Lib.hid (hd2 (by omega))
          clear hd2 HD HT hd
          go_wp2_with fail
          go_roundw
          case rel => exact ⟨k + 1, by omega, by go_num, by rw [← E1.out]; exact val_int (by have := hl.out; omega), by rw [E2.out], trivial⟩
          case measure => simp [intOf]; omega
      · have e2 : bits .xor .u8 (n : Int) (x : Int) = (n2 : Int) := by rw [HT.out, Nat.one_mul]; exact xor_b hn hx
        by_cases hh : 128 ≤ x
        · have hhz : (128 : Int) ≤ (x : Int) := by omega
          have hd := hd hh
          clear hd2 HD HT
          go_wp2_with fail
          go_roundw
          case rel => exact ⟨k + 1, by omega, by go_num, by rw [E1.out], by rw [E2.out], trivial⟩
          case measure => simp [intOf]; omega
        · have hhz : ¬ (128 : Int) ≤ (x : Int) := by omega
          have hl := Lib.hid (hd2 (by omega))
          clear hd2 HD HT hd
          go_wp2_with fail
          go_roundw
          case rel => exact ⟨k + 1, by omega, by go_num, by rw [← E1.out]; exact val_int (by have := hl.out; omega), by rw [E2.out], trivial⟩
          case measure => simp [intOf]; omega
    · have e : k = 8 := by omega
      subst e
      go_wp2_with fail
      go_ret
      exact ⟨rfl, rfl⟩
theorem rot_lt {x : Nat} (hx : x < 256) : ∀ i, rot x i < 256
  | 0 => xor_lt hx (by decide)
  | i + 1 => xor_lt (rot_lt hx i) (Nat.or_lt_two_pow (n := 8) (Nat.mod_lt _ (by decide)) (Nat.lt_of_le_of_lt (Nat.shiftRight_le _ _) hx))
theorem or_b {a b : Nat} (ha : a < 256) (hb : b < 256) : bits .or .u8 (a : Int) (b : Int) = ((a ||| b : Nat) : Int) := Go.u8_or_nat a b ha hb
/-- a round of turn, by its number -/
theorem rot_step {c : Nat} (hc : c < 256) (k : Nat) (m d : Nat) (hm : m = (c <<< (k + 1)) % 256) (hd : d = c >>> (8 - (k + 1))) :
    ∃ o : Nat, bits .or .u8 (m : Int) (d : Int) = (o : Int) ∧ bits .xor .u8 ((rot c k : Nat) : Int) (o : Int) = ((rot c (k + 1) : Nat) : Int) := by
  have h1 : m < 256 := by rw [hm]; exact Nat.mod_lt _ (by decide)
  have h2 : d < 256 := by rw [hd]; exact Nat.lt_of_le_of_lt (Nat.shiftRight_le _ _) hc
  refine ⟨m ||| d, or_b h1 h2, ?_⟩
  rw [xor_b (rot_lt hc k) (Nat.or_lt_two_pow (n := 8) h1 h2), hm, hd]
  rfl
def Drew (v : Value) (w : World) (e : Ending) (w' : World) : Prop := e = .returned v ∧ ∃ j, w' = w.drewN j
theorem rturn_any (c : Nat) (w : World) (hc : c < 256) : Calls Try.prog 32 #[.int .u8 (c : Int)] w (Drew (.int .u8 ((rturn c : Nat) : Int)) w) := by
  have h99 : bits .xor .u8 (c : Int) 99 = ((rot c 0 : Nat) : Int) := xor_b (b := 99) hc (by decide)
  obtain ⟨o1, a1, b1⟩ := rot_step hc 0 (c * 2 % 256) (c / 128) (by rw [Nat.shiftLeft_eq]) (by rw [Nat.shiftRight_eq_div_pow])
  obtain ⟨o2, a2, b2⟩ := rot_step hc 1 (c * 4 % 256) (c / 64) (by rw [Nat.shiftLeft_eq]) (by rw [Nat.shiftRight_eq_div_pow])
  obtain ⟨o3, a3, b3⟩ := rot_step hc 2 (c * 8 % 256) (c / 32) (by rw [Nat.shiftLeft_eq]) (by rw [Nat.shiftRight_eq_div_pow])
  obtain ⟨o4, a4, b4⟩ := rot_step hc 3 (c * 16 % 256) (c / 16) (by rw [Nat.shiftLeft_eq]) (by rw [Nat.shiftRight_eq_div_pow])
  have hr : rturn c = rot c 4 := rfl
  have HR := Lib.hid hr
  simp only [Nat.zero_add, Nat.reduceAdd, Int.natCast_emod, Int.natCast_mul, Int.natCast_ediv, Int.cast_ofNat_Int] at a1 a2 a3 a4 b1 b2 b3 b4
  generalize rot c 0 = r0 at *
  generalize rot c 1 = r1 at *
  generalize rot c 2 = r2 at *
  generalize rot c 3 = r3 at *
  generalize rot c 4 = r4 at *
  clear hr
  go_enter Try.func32, Try.ntmps32
  go_wp2_with fail
  go_loopw [3, 4] (fun n i wr => (∃ j, wr = w.drewN j) ∧ ((i = .int .i64 1 ∧ n = .int .u8 (r0 : Int)) ∨ (i = .int .i64 2 ∧ n = .int .u8 (r1 : Int)) ∨ (i = .int .i64 3 ∧ n = .int .u8 (r2 : Int)) ∨ (i = .int .i64 4 ∧ n = .int .u8 (r3 : Int)) ∨ (i = .int .i64 5 ∧ n = .int .u8 (r4 : Int)))) (fun _ i _ => 5 - (intOf i).toNat)
  case atStart => exact ⟨⟨0, rfl⟩, .inl ⟨rfl, rfl⟩⟩
  case round =>
    obtain ⟨⟨j, rfl⟩, ⟨rfl, rfl⟩ | ⟨rfl, rfl⟩ | ⟨rfl, rfl⟩ | ⟨rfl, rfl⟩ | ⟨rfl, rfl⟩⟩ := hrel
    · go_upto_region 5 with fail
      go_quiet (fail)
      go_wp2_with fail
      go_roundw
      case rel => exact ⟨⟨_, rfl⟩, .inr (.inl ⟨rfl, rfl⟩)⟩
      case measure => simp [intOf]
    · go_upto_region 5 with fail
      go_quiet (fail)
      go_wp2_with fail
      go_roundw
      case rel => exact ⟨⟨_, rfl⟩, .inr (.inr (.inl ⟨rfl, rfl⟩))⟩
      case measure => simp [intOf]
    · go_upto_region 5 with fail
      go_quiet (fail)
      go_wp2_with fail
      go_roundw
      case rel => exact ⟨⟨_, rfl⟩, .inr (.inr (.inr (.inl ⟨rfl, rfl⟩)))⟩
      case measure => simp [intOf]
    · go_upto_region 5 with fail
      go_quiet (fail)
      go_wp2_with fail
      go_roundw
      case rel => exact ⟨⟨_, rfl⟩, .inr (.inr (.inr (.inr ⟨rfl, rfl⟩)))⟩
      case measure => simp [intOf]
    · go_wp2_with fail
      go_ret
      exact ⟨by rw [HR.out]; rfl, j, rfl⟩
end Go.Proofs.Ytknemkekmahdmaa.aesC
