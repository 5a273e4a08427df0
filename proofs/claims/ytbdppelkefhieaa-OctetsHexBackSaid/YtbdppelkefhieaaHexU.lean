/-
  What Unhex does.
-/
import Derived.Test.YtbdppelkefhieaaHexB
namespace Go.Proofs.Ytbdppelkefhieaa.hexC
open Go.ChangeShapes Go.WideShapes Go.ChangeAt Go.RowKit
open Go.Proofs.Ytbdppelkefhieaa.memC Go.Proofs.Ytbdppelkefhieaa.hexM Go.Proofs.Ytbdppelkefhieaa.octC
set_option linter.unusedVariables false
theorem two_of {s : ByteArray} {i : Nat} (h : i + 1 < s.size) : ∃ a b : Int, ((s[i]'(by omega)).toNat : Int) = a ∧ ((s[i + 1]'h).toNat : Int) = b ∧ 0 ≤ a ∧ a ≤ 255 ∧ 0 ≤ b ∧ b ≤ 255 ∧ (strL s).drop i = a :: b :: (strL s).drop (i + 2) := by
  have h1 := strL_get s i (by omega)
  have h2 := strL_get s (i + 1) h
  have b1 := strL_bd s _ (List.mem_of_getElem? h1)
  have b2 := strL_bd s _ (List.mem_of_getElem? h2)
  exact ⟨_, _, rfl, rfl, b1.1, b1.2, b2.1, b2.2, drop2 h1 h2⟩
theorem or_nib {a b : Int} (h0 : 0 ≤ a) (h1 : a ≤ 15) (h2 : 0 ≤ b) (h3 : b ≤ 15) : bits .or .u8 (a * 16) b = a * 16 + b := by
  rw [Go.u8_or (a * 16) b (by omega) (by omega) h2 (by omega)]
  have e : (a * 16).toNat = a.toNat <<< 4 := by rw [Nat.shiftLeft_eq]; omega
  rw [e, ← Nat.shiftLeft_add_eq_or_of_lt (by omega : b.toNat < 2 ^ 4), Nat.shiftLeft_eq]
  omega
/-- what has been read, and what is still to come, is bs -/
def UnR (w wr : World) (l bs : List Int) (v : Value) (i : Nat) : Prop := ∃ ys zs, Own .u8 5 wr w.heap.size v ys ∧ unhexL (l.drop i) = some zs ∧ ys ++ zs = bs ∧ Below w.heap.size w wr
def UnOk (w : World) (bs : List Int) (e : Ending) (w' : World) : Prop := ∃ A c, e = .returned (.tuple #[.slice A bs.length c, .int .i64 0]) ∧ bs.length ≤ c ∧ c ≤ 9223372036854775807 ∧ Nums .u8 w' w'.heap.size A bs.length bs ∧ Below w.heap.size w w'
def UnNo (w : World) (e : Ending) (w' : World) : Prop := e = .returned (.tuple #[.slice none 0 0, .int .i64 3]) ∧ Below w.heap.size w w'
set_option maxRecDepth 100000 in
set_option maxHeartbeats 1000000 in
theorem unhex_ok (s : ByteArray) (bs : List Int) (w : World) (h : unhexL (strL s) = some bs) (hs : s.size ≤ 10000) :
    Calls Try.prog 14 #[.string s] w (UnOk w bs) := by
  obtain ⟨i0, hi0, hz0, hz1, hz2⟩ := info_parts byte_info
  have T1 := Lib.hid hi0; have T2 := Lib.hid hz0; have T3 := Lib.hid hz1; have T4 := Lib.hid hz2
  have b2 : i0.bytes * (s.size / 2) ≤ 281474976710656 := by rw [hz2]; omega
  clear hi0 hz0 hz1 hz2
  have hlen := unhex_len _ _ h
  rw [strL_len] at hlen
  obtain ⟨m, em⟩ : ∃ m, m = bs.length := ⟨_, rfl⟩
  rw [← em] at hlen
  have hev : (s.size : Int) % 2 = 0 := by omega
  have EM := Lib.hid em; have HH := Lib.hid h; have EL := Lib.hid hlen
  clear em h hlen
  go_enter Try.func14, Try.ntmps14
  go_wp2_with (at_make; (refine wpList_make_own _ rfl (.const (.int .i64 0)) (.tmp 16) _ rfl w.heap.size 5 i0 _ 1 Try.underlying22 T1.out T2.out T3.out .i64 .i64 _ (s.size / 2) rfl rfl (by omega) b2 (by simp only [maxLen]; omega) (Nat.le_refl _) ?_)
               intro w1 hown1 hg1
               have O1 : Own .u8 5 w1 w.heap.size (.slice (some ⟨w.heap.size, 0, none⟩) 0 (s.size / 2)) [] := hown1
               have B1 : Below w.heap.size w w1 := grown_below hg1 (Nat.le_refl _) (by nofun)
               clear hown1 hg1)
  go_loopw [4, 5] (fun v i wr => ∃ k : Nat, 2 * k ≤ s.size ∧ i = .int .i64 ((2 * k : Nat) : Int) ∧ UnR w wr (strL s) bs v (2 * k)) (fun _ i _ => s.size - (intOf i).toNat)
  case atStart => exact ⟨0, Nat.zero_le _, rfl, [], bs, O1, HH.out, rfl, B1⟩
  case round =>
    obtain ⟨k, hk, rfl, ys, zs, O, hz, hyz, Bw⟩ := hrel
    by_cases hlt : 2 * k < s.size
    · obtain ⟨a, b, ha, hb, a0, a1, b0, b1, hd⟩ := two_of (s := s) (i := 2 * k) (by have := EL.out; omega)
      rw [hd, unhexL] at hz
      by_cases hc : nib a ≤ 15 ∧ nib b ≤ 15
      · rw [if_pos hc] at hz
        obtain ⟨zs', hz', rfl⟩ := Option.map_eq_some_iff.1 hz
        have na := (nib_bd a).1
        have nb := (nib_bd b).1
        obtain ⟨ca, cb⟩ := hc
        have HL : ys.length ≤ 5000 := by have := EM.out; have := EL.out; have e := congrArg List.length hyz; simp at e; omega
        have d1 := fun w => digit_ok a w a0 a1 ca
        have d2 := fun w => digit_ok b w b0 b1 cb
        have or1 := or_nib na ca nb cb
        obtain ⟨x, ex⟩ : ∃ x, x = nib a := ⟨_, rfl⟩
        obtain ⟨y, ey⟩ : ∃ y, y = nib b := ⟨_, rfl⟩
        rw [← ex] at ca na d1 hz hyz or1
        rw [← ey] at cb nb d2 hz hyz or1
        have D1 := Lib.hid d1; have D2 := Lib.hid d2; have HZ := Lib.hid hz'; have HY := Lib.hid hyz
        clear hd hz hz' hyz d1 d2 ex ey
        go_wp2_with (first
          | (go_at_call 30; (with_reducible refine (D1.out _).mono ?_); rintro e w' ⟨rfl, rfl⟩)
          | (go_at_call 30; (with_reducible refine (D2.out _).mono ?_); rintro e w' ⟨rfl, rfl⟩)
          | (at_builtin; (refine wpList_app1 _ rfl (.tmp 45) (.tmp 50) _ rfl 5 i0 _ 1 Try.underlying22 T1.out T2.out T3.out T4.out rfl w.heap.size _ ys rfl O _ rfl (by simp only [maxLen]; omega) (by omega) Bw.size ?_)
             intro v' w' O' B'))
        go_roundw
        case rel =>
          refine ⟨k + 1, by have := EL.out; omega, by go_num, ys ++ [x * 16 + y], zs', ?_, ?_, by rw [← HY.out]; simp, Bw.trans B'⟩
          · exact O'
          · exact HZ.out
        case measure => simp [intOf]; omega
      · rw [if_neg hc] at hz; cases hz
    · have e : (strL s).drop (2 * k) = [] := List.drop_eq_nil_of_le (by rw [strL_len]; omega)
      rw [e, unhexL] at hz
      obtain rfl := Option.some.inj hz
      have e2 : ys = bs := by rw [← hyz]; simp
      clear hyz e hz
      subst e2
      obtain ⟨A', c', rfl, g1, g2, N⟩ := O.form
      unfold maxLen at g2
      go_wp2_with fail
      go_ret2
      exact ⟨A', c', rfl, g1, by omega, N, Bw⟩
end Go.Proofs.Ytbdppelkefhieaa.hexC
