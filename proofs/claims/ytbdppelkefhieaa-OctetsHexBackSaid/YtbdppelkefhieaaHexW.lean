/-
  What the document's Unhex does.
-/
import Derived.Test.YtbdppelkefhieaaHexV
import Derived.StillTactics
namespace Go.Proofs.Ytbdppelkefhieaa.hexC
open Go.ChangeShapes Go.WideShapes Go.ChangeAt Go.RowKit
open Go.Proofs.Ytbdppelkefhieaa.memC Go.Proofs.Ytbdppelkefhieaa.hexM Go.Proofs.Ytbdppelkefhieaa.octC
set_option linter.unusedVariables false
theorem wrap8 {x : Int} (h0 : 0 ≤ x) (h1 : x ≤ 255) : IntKind.u8.wrap x = x := by
  simp [IntKind.wrap, IntKind.bits, IntKind.signed]; omega
theorem nib_call {c x : Int} (h0 : 0 ≤ c) (h1 : c ≤ 255) (hx : nib c = x) (w : World) :
    Calls Try.prog 31 #[.int .u8 c] w fun e w' => e = .returned (.int .u8 x) ∧ w' = w :=
  (nibble_any c w h0 h1).mono fun e w' h => ⟨by rw [h.1, hx], h.2.symm⟩
theorem nib_calls {c x : Int} (h0 : 0 ≤ c) (h1 : c ≤ 255) (hx : nib c = x) (w : World) :
    Calls Try.prog 31 #[.int .u8 c] w fun e w' => e = .returned (.int .u8 x) ∧ w = w' :=
  (nibble_any c w h0 h1).mono fun e w' h => ⟨by rw [h.1, hx], h.2⟩
theorem nums_lit {k : IntKind} (w : World) (x : Int) (e : TypeId) : Nums k (w.alloc (.cells #[.int k x] e)) (w.heap.size + 1) (some ⟨w.heap.size, 0, none⟩) 1 [x] :=
  ⟨rfl, fun _ => ⟨_, 0, rfl, Nat.lt_succ_self _, fun i hi => by
    obtain rfl : i = 0 := by omega
    go_simp⟩⟩
/-- a call that only reads, as a step of a region that draws -/
theorem step_quiet {P : Program} {ops : Array Oper} {o : Oper} {a : Act} {w : World} {Q : Exit → Act → World → Prop} {K : Act → World → Prop} {E : Prop} (hgd : o.guard = none) (h : o.still P a w fun a' => K a' w) :
    if Region.wanted o (yielded ops a.tmps) = true then Oper.wp P o a w K Q else E := by
  have hw : Region.wanted o (yielded ops a.tmps) = true := by simp [Region.wanted, hgd]
  rw [if_pos hw]
  exact Oper.wp_of_still (fun _ h => h) h
set_option maxRecDepth 100000 in
set_option maxHeartbeats 1000000 in
theorem unhexref_ok (s : ByteArray) (bs : List Int) (w : World) (h : unhexL (strL s) = some bs) (hs : s.size ≤ 10000) :
    Calls Try.prog 15 #[.string s] w (UnOk w bs) := by
  obtain ⟨i0, hi0, hz0, hz1, hz2⟩ := info_parts byte_info
  have T1 := Lib.hid hi0; have T2 := Lib.hid hz0; have T3 := Lib.hid hz1; have T4 := Lib.hid hz2
  clear hi0 hz0 hz1 hz2
  have hlen := unhex_len _ _ h
  rw [strL_len] at hlen
  obtain ⟨m, em⟩ : ∃ m, m = bs.length := ⟨_, rfl⟩
  rw [← em] at hlen
  have hev : (s.size : Int) % 2 = 0 := by omega
  have EM := Lib.hid em; have HH := Lib.hid h; have EL := Lib.hid hlen
  clear em h hlen
  go_enter Try.func15, Try.ntmps15
  go_wp2_with fail
  clear hev
  go_loopw [4, 5] (fun v i wr => ∃ k : Nat, 2 * k ≤ s.size ∧ i = .int .i64 ((2 * k : Nat) : Int) ∧ UnR w wr (strL s) bs v (2 * k)) (fun _ i _ => s.size - (intOf i).toNat)
  case atStart => exact ⟨0, Nat.zero_le _, rfl, [], bs, Own.nil _ _, HH.out, rfl, Below.refl _ _⟩
  case round =>
    obtain ⟨k, hk, rfl, ys, zs, O, hz, hyz, Bw⟩ := hrel
    by_cases hlt : 2 * k < s.size
    · have hlt1 : 2 * k + 1 < s.size := lt_even (by have := EL.out; omega) hlt
      obtain ⟨a, b, ha, hb, a0, a1, b0, b1, hd⟩ := two_of (s := s) (i := 2 * k) hlt1
      rw [hd, unhexL] at hz
      by_cases hc : nib a ≤ 15 ∧ nib b ≤ 15
      · rw [if_pos hc] at hz
        obtain ⟨zs', hz', rfl⟩ := Option.map_eq_some_iff.1 hz
        have na := (nib_bd a).1
        have nb := (nib_bd b).1
        obtain ⟨ca, cb⟩ := hc
        have HL : ys.length ≤ 5000 := by have := EM.out; have := EL.out; have e := congrArg List.length hyz; simp at e; omega
        obtain ⟨x, ex⟩ : ∃ x, nib a = x := ⟨_, rfl⟩
        obtain ⟨y, ey⟩ : ∃ y, nib b = y := ⟨_, rfl⟩
        have D1 := Lib.hid fun w => nib_call a0 a1 ex w
        have D2 := Lib.hid fun w => nib_call b0 b1 ey w
        have E1 := Lib.hid fun w => nib_calls a0 a1 ex w
        have E2 := Lib.hid fun w => nib_calls b0 b1 ey w
        rw [ex] at ca na hz hyz
        rw [ey] at cb nb hz hyz
        have HZ := Lib.hid hz'; have HY := Lib.hid hyz
        have w1 : IntKind.u8.wrap (x * 16) = x * 16 := wrap8 (by omega) (by omega)
        have w2 : IntKind.u8.wrap (x * 16 + y) = x * 16 + y := wrap8 (by omega) (by omega)
        clear hd hz hz' hyz ex ey
        go_wp2_with (first
          | (go_at_call 31; (with_reducible refine (E1.out _).mono ?_); rintro e w' ⟨rfl, rfl⟩)
          | (go_at_call 31; (with_reducible refine (E2.out _).mono ?_); rintro e w' ⟨rfl, rfl⟩))
        have k1 : IntKind.i64.wrap (2 * (k : Int) + 1) = 2 * (k : Int) + 1 := IntWalk.i64_in _ (by omega)
        have k2 : (2 * (k : Int)).toNat = 2 * k := by omega
        have k3 : (2 * (k : Int) + 1).toNat = 2 * k + 1 := by omega
        go_region_law (first
          | ((refine step_quiet rfl ?_); go_simp; (with_reducible refine ⟨_, D1.out _, ?_⟩))
          | ((refine step_quiet rfl ?_); go_simp; (with_reducible refine ⟨_, D2.out _, ?_⟩))
          | ((refine step_app _ rfl (.tmp 30) (.tmp 42) _ rfl 5 i0 _ 1 Try.underlying22 T1.out T2.out T3.out T4.out rfl w.heap.size _ ys rfl (by exact O.keep fun g _ hg => Below.heap_alloc _ _ _ hg) (wr.heap.size + 1) _ 1 1 [x * 16 + y] rfl (by exact (nums_lit wr _ _).heap rfl) (by simp only [maxLen]; omega) (by omega) (by exact Nat.le_trans Bw.size (by simp)) ?_)
             intro v' w' O' hg'))
        all_goals
          have X : Below w.heap.size w (wr.alloc (.cells #[.int .u8 (x * 16 + y)] 5)) := Bw.alloc Bw.size _
          have Bn : Below w.heap.size w w' := by
            refine Below.grown ?_ hg' ?_ ?_
            · exact ⟨X.os, X.tape, X.output, X.size, X.block⟩
            · exact X.size
            · exact fun g hg => (O.blk g hg).1
          clear hg' X k1 k2 k3 w1 w2
          go_wp2_with fail
          go_roundw
          case rel =>
            exact ⟨k + 1, by have := EL.out; omega, by go_num, ys ++ [x * 16 + y], zs', O', HZ.out, by rw [← HY.out]; simp, Bn⟩
          case measure => simp [intOf]; omega
      · rw [if_neg hc] at hz; cases hz
    · have e : (strL s).drop (2 * k) = [] := List.drop_eq_nil_of_le (by rw [strL_len]; omega)
      rw [e, unhexL] at hz
      obtain rfl := Option.some.inj hz
      have e2 : ys = bs := by rw [← hyz]; simp
      clear hyz e hz
      subst e2
      obtain ⟨A', c', rfl, g1, g2, N⟩ := O.form
      unfold maxLen at g2
      go_wp2_with fail
      go_ret2
      exact ⟨A', c', rfl, g1, by omega, N, Bw⟩
end Go.Proofs.Ytbdppelkefhieaa.hexC
