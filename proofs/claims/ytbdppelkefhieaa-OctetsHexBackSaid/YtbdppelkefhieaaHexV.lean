/-
  What Unhex does of a text that is no bytes' one.
-/
import Derived.Test.YtbdppelkefhieaaHexU
namespace Go.Proofs.Ytbdppelkefhieaa.hexC
open Go.ChangeShapes Go.WideShapes Go.ChangeAt Go.RowKit
open Go.Proofs.Ytbdppelkefhieaa.memC Go.Proofs.Ytbdppelkefhieaa.hexM Go.Proofs.Ytbdppelkefhieaa.octC
set_option linter.unusedVariables false
theorem lt_even {n k : Nat} (h : n % 2 = 0) (hk : 2 * k < n) : 2 * k + 1 < n := by omega
def NoR (w wr : World) (l : List Int) (v : Value) (k : Nat) : Prop := ∃ ys, Own .u8 5 wr w.heap.size v ys ∧ ys.length = k ∧ unhexL (l.drop (2 * k)) = none ∧ Below w.heap.size w wr
set_option maxRecDepth 100000 in
set_option maxHeartbeats 400000 in
theorem unhex_odd (s : ByteArray) (w : World) (h : s.size % 2 = 1) (hs : s.size ≤ 10000) :
    Calls Try.prog 14 #[.string s] w (UnNo w) := by
  have hev : (s.size : Int) % 2 = 1 := by omega
  clear h
  go_enter Try.func14, Try.ntmps14
  go_wp2_with fail
  go_ret2
  exact ⟨rfl, Below.refl _ _⟩
set_option maxRecDepth 100000 in
set_option maxHeartbeats 1000000 in
theorem unhex_even (s : ByteArray) (w : World) (h : unhexL (strL s) = none) (h2 : s.size % 2 = 0) (hs : s.size ≤ 10000) :
    Calls Try.prog 14 #[.string s] w (UnNo w) := by
  obtain ⟨i0, hi0, hz0, hz1, hz2⟩ := info_parts byte_info
  have T1 := Lib.hid hi0; have T2 := Lib.hid hz0; have T3 := Lib.hid hz1; have T4 := Lib.hid hz2
  have b2 : i0.bytes * (s.size / 2) ≤ 281474976710656 := by rw [hz2]; omega
  clear hi0 hz0 hz1 hz2
  have hev : (s.size : Int) % 2 = 0 := by omega
  have EV := Lib.hid h2; have HH := Lib.hid h
  clear h h2
  go_enter Try.func14, Try.ntmps14
  go_wp2_with (at_make; (refine wpList_make_own _ rfl (.const (.int .i64 0)) (.tmp 16) _ rfl w.heap.size 5 i0 _ 1 Try.underlying22 T1.out T2.out T3.out .i64 .i64 _ (s.size / 2) rfl rfl (by omega) b2 (by simp only [maxLen]; omega) (Nat.le_refl _) ?_)
               intro w1 hown1 hg1
               have O1 : Own .u8 5 w1 w.heap.size (.slice (some ⟨w.heap.size, 0, none⟩) 0 (s.size / 2)) [] := hown1
               have B1 : Below w.heap.size w w1 := grown_below hg1 (Nat.le_refl _) (by nofun)
               clear hown1 hg1)
  go_loopw [4, 5] (fun v i wr => ∃ k : Nat, 2 * k ≤ s.size ∧ i = .int .i64 ((2 * k : Nat) : Int) ∧ NoR w wr (strL s) v k) (fun _ i _ => s.size - (intOf i).toNat)
  case atStart => exact ⟨0, Nat.zero_le _, rfl, [], O1, rfl, HH.out, B1⟩
  case round =>
    obtain ⟨k, hk, rfl, ys, O, hy, hz, Bw⟩ := hrel
    by_cases hlt : 2 * k < s.size
    · obtain ⟨a, b, ha, hb, a0, a1, b0, b1, hd⟩ := two_of (s := s) (i := 2 * k) (lt_even EV.out hlt)
      rw [hd, unhexL] at hz
      have HZ := Lib.hid hz
      have HY := Lib.hid hy
      have HL : ys.length ≤ 5000 := by omega
      have na := (nib_bd a).1
      have nb := (nib_bd b).1
      clear hd hz hy
      by_cases ca : nib a ≤ 15
      · by_cases cb : nib b ≤ 15
        · have D1 := Lib.hid fun w => digit_ok a w a0 a1 ca
          have D2 := Lib.hid fun w => digit_ok b w b0 b1 cb
          have or1 := or_nib na ca nb cb
          have HZ' := HZ.out
          rw [if_pos ⟨ca, cb⟩] at HZ'
          have HN := Lib.hid (Option.map_eq_none_iff.1 HZ')
          clear HZ HZ'
          generalize nib a = x at *
          generalize nib b = y at *
          go_wp2_with (first
            | (go_at_call 30; (with_reducible refine (D1.out _).mono ?_); rintro e w' ⟨rfl, rfl⟩)
            | (go_at_call 30; (with_reducible refine (D2.out _).mono ?_); rintro e w' ⟨rfl, rfl⟩)
            | (at_builtin; (refine wpList_app1 _ rfl (.tmp 45) (.tmp 50) _ rfl 5 i0 _ 1 Try.underlying22 T1.out T2.out T3.out T4.out rfl w.heap.size _ ys rfl O _ rfl (by simp only [maxLen]; omega) (by omega) Bw.size ?_)
               intro v' w' O' B'))
          go_roundw
          case rel => exact ⟨k + 1, by have := EV.out; omega, by go_num, _, O', by have := HY.out; simp; omega, HN.out, Bw.trans B'⟩
          case measure => simp [intOf]; omega
        · have D1 := Lib.hid fun w => digit_ok a w a0 a1 ca
          have D2 := Lib.hid fun w => digit_no b w b0 b1 cb
          clear HZ cb
          generalize nib a = x at *
          go_wp2_with (first
            | (go_at_call 30; (with_reducible refine (D1.out _).mono ?_); rintro e w' ⟨rfl, rfl⟩)
            | (go_at_call 30; (with_reducible refine (D2.out _).mono ?_); rintro e w' ⟨rfl, rfl⟩))
          go_ret2
          exact ⟨rfl, Bw⟩
      · by_cases cb : nib b ≤ 15
        · have D1 := Lib.hid fun w => digit_no a w a0 a1 ca
          have D2 := Lib.hid fun w => digit_ok b w b0 b1 cb
          clear HZ ca
          generalize nib b = y at *
          go_wp2_with (first
            | (go_at_call 30; (with_reducible refine (D1.out _).mono ?_); rintro e w' ⟨rfl, rfl⟩)
            | (go_at_call 30; (with_reducible refine (D2.out _).mono ?_); rintro e w' ⟨rfl, rfl⟩))
          go_ret2
          exact ⟨rfl, Bw⟩
        · have D1 := Lib.hid fun w => digit_no a w a0 a1 ca
          have D2 := Lib.hid fun w => digit_no b w b0 b1 cb
          clear HZ ca cb
          go_wp2_with (first
            | (go_at_call 30; (with_reducible refine (D1.out _).mono ?_); rintro e w' ⟨rfl, rfl⟩)
            | (go_at_call 30; (with_reducible refine (D2.out _).mono ?_); rintro e w' ⟨rfl, rfl⟩))
          go_ret2
          exact ⟨rfl, Bw⟩
    · rw [List.drop_eq_nil_of_le (by rw [strL_len]; omega)] at hz
      cases hz
theorem unhex_no (s : ByteArray) (w : World) (h : unhexL (strL s) = none) (hs : s.size ≤ 10000) :
    Calls Try.prog 14 #[.string s] w (UnNo w) := by
  rcases Nat.mod_two_eq_zero_or_one s.size with h2 | h2
  · exact unhex_even s w h h2 hs
  · exact unhex_odd s w h2 hs
end Go.Proofs.Ytbdppelkefhieaa.hexC
