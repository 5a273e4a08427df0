/-
  What the document's Unhex does of a text that is no bytes' one.
-/
import Derived.Test.YtbdppelkefhieaaHexW
namespace Go.Proofs.Ytbdppelkefhieaa.hexC
open Go.ChangeShapes Go.WideShapes Go.ChangeAt Go.RowKit
open Go.Proofs.Ytbdppelkefhieaa.memC Go.Proofs.Ytbdppelkefhieaa.hexM Go.Proofs.Ytbdppelkefhieaa.octC
set_option linter.unusedVariables false
set_option maxRecDepth 100000 in
set_option maxHeartbeats 400000 in
theorem unhexref_odd (s : ByteArray) (w : World) (h : s.size % 2 = 1) (hs : s.size ≤ 10000) :
    Calls Try.prog 15 #[.string s] w (UnNo w) := by
  have hev : (s.size : Int) % 2 = 1 := by omega
  clear h
  go_enter Try.func15, Try.ntmps15
  go_wp2_with fail
  go_ret2
  exact ⟨rfl, Below.refl _ _⟩
set_option maxRecDepth 100000 in
set_option maxHeartbeats 1000000 in
theorem unhexref_even (s : ByteArray) (w : World) (h : unhexL (strL s) = none) (h2 : s.size % 2 = 0) (hs : s.size ≤ 10000) :
    Calls Try.prog 15 #[.string s] w (UnNo w) := by
  obtain ⟨i0, hi0, hz0, hz1, hz2⟩ := info_parts byte_info
  have T1 := Lib.hid hi0; have T2 := Lib.hid hz0; have T3 := Lib.hid hz1; have T4 := Lib.hid hz2
  clear hi0 hz0 hz1 hz2
  have hev : (s.size : Int) % 2 = 0 := by omega
  have EV := Lib.hid h2; have HH := Lib.hid h
  clear h h2
  go_enter Try.func15, Try.ntmps15
  go_wp2_with fail
  clear hev
  go_loopw [4, 5] (fun v i wr => ∃ k : Nat, 2 * k ≤ s.size ∧ i = .int .i64 ((2 * k : Nat) : Int) ∧ NoR w wr (strL s) v k) (fun _ i _ => s.size - (intOf i).toNat)
  case atStart => exact ⟨0, Nat.zero_le _, rfl, [], Own.nil _ _, rfl, HH.out, Below.refl _ _⟩
  case round =>
    obtain ⟨k, hk, rfl, ys, O, hy, hz, Bw⟩ := hrel
    by_cases hlt : 2 * k < s.size
    · have hlt1 : 2 * k + 1 < s.size := lt_even EV.out hlt
      obtain ⟨a, b, ha, hb, a0, a1, b0, b1, hd⟩ := two_of (s := s) (i := 2 * k) hlt1
      rw [hd, unhexL] at hz
      have HZ := Lib.hid hz
      have HY := Lib.hid hy
      have HL : ys.length ≤ 5000 := by omega
      have na := (nib_bd a).1
      have nb := (nib_bd b).1
      clear hd hz hy
      by_cases ca : nib a ≤ 15
      · by_cases cb : nib b ≤ 15
        · have HZ' := HZ.out
          rw [if_pos ⟨ca, cb⟩] at HZ'
          have HN := Lib.hid (Option.map_eq_none_iff.1 HZ')
          clear HZ HZ'
          obtain ⟨x, ex⟩ : ∃ x, nib a = x := ⟨_, rfl⟩
          obtain ⟨y, ey⟩ : ∃ y, nib b = y := ⟨_, rfl⟩
          have D1 := Lib.hid fun w => nib_call a0 a1 ex w
          have D2 := Lib.hid fun w => nib_call b0 b1 ey w
          have E1 := Lib.hid fun w => nib_calls a0 a1 ex w
          have E2 := Lib.hid fun w => nib_calls b0 b1 ey w
          rw [ex] at ca na
          rw [ey] at cb nb
          have w1 : IntKind.u8.wrap (x * 16) = x * 16 := wrap8 (by omega) (by omega)
          have w2 : IntKind.u8.wrap (x * 16 + y) = x * 16 + y := wrap8 (by omega) (by omega)
          clear ex ey
          go_wp2_with (first
            | (go_at_call 31; (with_reducible refine (E1.out _).mono ?_); rintro e w' ⟨rfl, rfl⟩)
            | (go_at_call 31; (with_reducible refine (E2.out _).mono ?_); rintro e w' ⟨rfl, rfl⟩))
          have k1 : IntKind.i64.wrap (2 * (k : Int) + 1) = 2 * (k : Int) + 1 := IntWalk.i64_in _ (by omega)
          have k2 : (2 * (k : Int)).toNat = 2 * k := by omega
          have k3 : (2 * (k : Int) + 1).toNat = 2 * k + 1 := by omega
          go_region_law (first
            | ((refine step_quiet rfl ?_); go_simp; (with_reducible refine ⟨_, D1.out _, ?_⟩))
            | ((refine step_quiet rfl ?_); go_simp; (with_reducible refine ⟨_, D2.out _, ?_⟩))
            | ((refine step_app _ rfl (.tmp 30) (.tmp 42) _ rfl 5 i0 _ 1 Try.underlying22 T1.out T2.out T3.out T4.out rfl w.heap.size _ ys rfl (by exact O.keep fun g _ hg => Below.heap_alloc _ _ _ hg) (wr.heap.size + 1) _ 1 1 [x * 16 + y] rfl (by exact (nums_lit wr _ _).heap rfl) (by simp only [maxLen]; omega) (by omega) (by exact Nat.le_trans Bw.size (by simp)) ?_)
               intro v' w' O' hg'))
          all_goals
            have X : Below w.heap.size w (wr.alloc (.cells #[.int .u8 (x * 16 + y)] 5)) := Bw.alloc Bw.size _
            have Bn : Below w.heap.size w w' := by
              refine Below.grown ?_ hg' ?_ ?_
              · exact ⟨X.os, X.tape, X.output, X.size, X.block⟩
              · exact X.size
              · exact fun g hg => (O.blk g hg).1
            clear hg' X k1 k2 k3 w1 w2
            go_wp2_with fail
            go_roundw
            case rel => exact ⟨k + 1, by omega, by go_num, _, O', by have := HY.out; simp; omega, HN.out, Bn⟩
            case measure => simp [intOf]; omega
        · obtain ⟨x, ex⟩ : ∃ x, nib a = x := ⟨_, rfl⟩
          obtain ⟨y, ey⟩ : ∃ y, nib b = y := ⟨_, rfl⟩
          have E1 := Lib.hid fun w => nib_calls a0 a1 ex w
          have E2 := Lib.hid fun w => nib_calls b0 b1 ey w
          rw [ex] at ca na
          rw [ey] at cb nb
          clear ex ey HZ
          go_wp2_with (first
            | (go_at_call 31; (with_reducible refine (E1.out _).mono ?_); rintro e w' ⟨rfl, rfl⟩)
            | (go_at_call 31; (with_reducible refine (E2.out _).mono ?_); rintro e w' ⟨rfl, rfl⟩))
          go_ret2
          exact ⟨rfl, Bw⟩
      · obtain ⟨x, ex⟩ : ∃ x, nib a = x := ⟨_, rfl⟩
        have E1 := Lib.hid fun w => nib_calls a0 a1 ex w
        rw [ex] at ca na
        clear ex HZ
        go_wp2_with (first
          | (go_at_call 31; (with_reducible refine (E1.out _).mono ?_); rintro e w' ⟨rfl, rfl⟩))
        go_ret2
        exact ⟨rfl, Bw⟩
    · rw [List.drop_eq_nil_of_le (by rw [strL_len]; omega)] at hz
      cases hz
theorem unhexref_no (s : ByteArray) (w : World) (h : unhexL (strL s) = none) (hs : s.size ≤ 10000) :
    Calls Try.prog 15 #[.string s] w (UnNo w) := by
  rcases Nat.mod_two_eq_zero_or_one s.size with h2 | h2
  · exact unhexref_even s w h h2 hs
  · exact unhexref_odd s w h2 hs
end Go.Proofs.Ytbdppelkefhieaa.hexC
