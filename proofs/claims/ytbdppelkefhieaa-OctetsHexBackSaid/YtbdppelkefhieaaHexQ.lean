/-
  The walk of the fourth statement of octets.
-/
import Derived.Test.YtbdppelkefhieaaHexP
namespace Go.Proofs.Ytbdppelkefhieaa.hexC
open Go.ChangeShapes Go.WideShapes Go.ChangeAt Go.RowKit
open Go.Proofs.Ytbdppelkefhieaa.memC Go.Proofs.Ytbdppelkefhieaa.hexM Go.Proofs.Ytbdppelkefhieaa.octC
set_option linter.unusedVariables false
set_option maxRecDepth 100000 in
set_option maxHeartbeats 400000 in
theorem back_long (A : Option Addr) (n c : Nat) (s : ByteArray) (w : World) (hn : n ≤ 9223372036854775807) (hs : s.size ≤ 9223372036854775807) (h : 3000 < n ∨ 3000 < s.size) :
    Calls Try.prog 6 #[.slice A n c, .string s] w (AliveRet w) := by
  by_cases h1 : 3000 < n
  · have d1 : decide (3000 < n) = true := by simpa using h1
    clear h
    go_enter Try.func6, Try.ntmps6
    go_wp2_with (first
      | (go_at_call 8; refine (long_any _ _ _ _ hn).mono ?_; rintro e w' ⟨rfl, rfl⟩)
      | (go_at_call 9; refine (alive_any _).mono ?_; rintro e w' ⟨rfl, hg⟩))
    go_ret
    exact ⟨rfl, hg⟩
  · have d1 : decide (3000 < n) = false := by simpa using h1
    have h3 : (3000 : Int) < s.size := by omega
    clear h h1
    go_enter Try.func6, Try.ntmps6
    go_wp2_with (first
      | (go_at_call 8; refine (long_any _ _ _ _ hn).mono ?_; rintro e w' ⟨rfl, rfl⟩)
      | (go_at_call 9; refine (alive_any _).mono ?_; rintro e w' ⟨rfl, hg⟩))
    go_ret
    exact ⟨rfl, hg⟩
/-- Unhex of Hex -/
theorem unhex_of_hex (bs : List Int) (w : World) (hy : ∀ x ∈ bs, Byte x) (hn : bs.length ≤ 5000) : Calls Try.prog 14 #[.string (strOfNums (hexL bs))] w (UnOk w bs) := by
  have hb : ∀ x ∈ hexL bs, 0 ≤ x ∧ x ≤ 255 := by
    intro x hx
    unfold hexL at hx
    obtain ⟨b, hb, hx⟩ := List.mem_flatMap.1 hx
    have := hy b hb
    unfold Byte at this
    rcases List.mem_cons.1 hx with rfl | hx
    · exact hexD_bd _ (by omega) (by omega)
    · rcases List.mem_cons.1 hx with rfl | hx
      · exact hexD_bd _ (by omega) (by omega)
      · cases hx
  exact unhex_ok _ bs w (by rw [strL_of _ hb]; exact unhex_hex bs fun x hx => hy x hx) (by rw [strOfNums_size, hexL_len]; omega)
set_option maxRecDepth 100000 in
set_option maxHeartbeats 1000000 in
theorem back_no (A : Option Addr) (n c : Nat) (s : ByteArray) (xs : List Int) (w : World) (ha : Nums .u8 w w.heap.size A n xs) (hy : ∀ x ∈ xs, Byte x) (hn : n ≤ 3000) (hs : s.size ≤ 3000) (h : unhexL (strL s) = none) :
    Calls Try.prog 6 #[.slice A n c, .string s] w (AliveRet w) := by
  have d1 : decide (3000 < n) = false := by simpa using hn
  have HY := Lib.hid hy
  have HH := Lib.hid h
  have hl := ha.len
  have HL := Lib.hid hl
  clear hy h hl
  go_enter Try.func6, Try.ntmps6
  go_wp2_with (first
    | (go_at_call 8; refine (long_any _ _ _ _ (by omega)).mono ?_; rintro e w' ⟨rfl, rfl⟩)
    | (go_at_call 16
       refine (hex_any _ _ _ xs _ ha (by omega) HY.out).mono ?_
       rintro e w1 ⟨rfl, B1⟩)
    | (go_at_call 14
       (with_reducible refine (unhex_of_hex xs _ HY.out (by have := HL.out; omega)).mono ?_)
       rintro e w2 ⟨A3, c3, rfl, g3, g3', N3, B3⟩
       have B4 : Below w.heap.size w w2 := B1.trans (B3.mono B1.size)
       have k1 := str_at N3 c3
       have k2 := str_at ((ha.below B4).more B4.size) c
       have KK := Lib.hid N3
       clear N3)
    | (go_at_call 14
       (with_reducible refine (unhex_no s _ HH.out (by omega)).mono ?_)
       rintro e w3 ⟨rfl, B5⟩
       have B6 : Below w.heap.size w w3 := B4.trans (B5.mono B4.size))
    | (go_at_call 9; refine (alive_any _).mono ?_; rintro e w' ⟨rfl, hg⟩))
  go_ret
  exact ⟨rfl, B6.trans (hg.mono B6.size)⟩
theorem lower_at {s t : ByteArray} (ht : strL t = (strL s).map lower) {k : Nat} (h : k < s.size) (h' : k < t.size) :
    ∃ a b : Int, ((s[k]'h).toNat : Int) = a ∧ ((t[k]'h').toNat : Int) = b ∧ 0 ≤ a ∧ a ≤ 255 ∧ b = lower a := by
  have h1 := strL_get s k h
  have h2 := strL_get t k h'
  have b1 := strL_bd s _ (List.mem_of_getElem? h1)
  rw [ht, List.getElem?_map, h1] at h2
  exact ⟨_, _, rfl, rfl, b1.1, b1.2, (Option.some.inj h2).symm⟩
set_option maxRecDepth 100000 in
set_option maxHeartbeats 1000000 in
theorem back_some (A : Option Addr) (n c : Nat) (s : ByteArray) (xs ys : List Int) (w : World) (ha : Nums .u8 w w.heap.size A n xs) (hy : ∀ x ∈ xs, Byte x) (hn : n ≤ 3000) (hs : s.size ≤ 3000) (h : unhexL (strL s) = some ys) :
    Calls Try.prog 6 #[.slice A n c, .string s] w (AliveRet w) := by
  have d1 : decide (3000 < n) = false := by simpa using hn
  obtain ⟨hsp, hyb⟩ := unhex_spec _ _ h
  have hyl : ys.length ≤ 3000 := by have := unhex_len _ _ h; rw [strL_len] at this; omega
  have hbd : ∀ x ∈ hexL ys, 0 ≤ x ∧ x ≤ 255 := by
    intro x hx
    unfold hexL at hx
    obtain ⟨b, hb, hx⟩ := List.mem_flatMap.1 hx
    have := hyb b hb
    rcases List.mem_cons.1 hx with rfl | hx
    · exact hexD_bd _ (by omega) (by omega)
    · rcases List.mem_cons.1 hx with rfl | hx
      · exact hexD_bd _ (by omega) (by omega)
      · cases hx
  obtain ⟨t, et⟩ : ∃ t, t = strOfNums (hexL ys) := ⟨_, rfl⟩
  have htl : strL t = (strL s).map lower := by rw [et, strL_of _ hbd, hsp]
  have hts : t.size = s.size := by rw [← strL_len, htl, List.length_map, strL_len]
  have HT := Lib.hid htl
  have HS := Lib.hid hts
  have HE := Lib.hid et
  have HY := Lib.hid hy
  have hyb' : ∀ x ∈ ys, Byte x := fun x hx => hyb x hx
  have HYB := Lib.hid hyb'
  have HH := Lib.hid h
  have hl := ha.len
  have HL := Lib.hid hl
  have hts' : (t.size : Int) = (s.size : Int) := by omega
  clear hy h hl hsp hyb hyb' hbd et htl hts
  go_enter Try.func6, Try.ntmps6
  go_wp2_with (first
    | (go_at_call 8; refine (long_any _ _ _ _ (by omega)).mono ?_; rintro e w' ⟨rfl, rfl⟩)
    | (go_at_call 16
       (with_reducible refine (hex_any A _ _ xs _ ha (by omega) HY.out).mono ?_)
       rintro e w1 ⟨rfl, B1⟩)
    | (go_at_call 14
       (with_reducible refine (unhex_of_hex xs _ HY.out (by have := HL.out; omega)).mono ?_)
       rintro e w2 ⟨A3, c3, rfl, g3, g3', N3, B3⟩
       have B4 : Below w.heap.size w w2 := B1.trans (B3.mono B1.size)
       have k1 := str_at N3 c3
       have k2 := str_at ((ha.below B4).more B4.size) c
       have KK := Lib.hid N3
       clear N3)
    | (go_at_call 14
       (with_reducible refine (unhex_ok s ys _ HH.out (by omega)).mono ?_)
       rintro e w3 ⟨A5, c5, rfl, g5, g5', N5, B5⟩
       have B6 : Below w.heap.size w w3 := B4.trans (B5.mono B4.size)
       have k3 := str_at N5 c5
       clear k1 k2)
    | (go_at_call 16
       (with_reducible refine (hex_any A5 _ _ ys _ N5 (by omega) HYB.out).mono ?_)
       rintro e w4 ⟨he, B7⟩
       rw [← HE.out] at he
       subst he
       have B8 : Below w.heap.size w w4 := B6.trans (B7.mono B6.size)
       clear k3))
  clear hts'
  go_loop [57] (fun i => ∃ k : Nat, k ≤ s.size ∧ i = .int .i64 k) (fun i => s.size - (intOf i).toNat)
  case atStart => exact ⟨0, Nat.zero_le _, rfl⟩
  case round =>
    obtain ⟨k, hk, rfl⟩ := hrel
    by_cases hlt : k < s.size
    · obtain ⟨a, b, ea, eb, a0, a1, hab⟩ := lower_at HT.out hlt (by rw [HS.out]; exact hlt)
      have hlt' : (k : Int) < t.size := by rw [HS.out]; omega
      unfold lower at hab
      by_cases c1 : 65 ≤ a
      · by_cases c2 : a ≤ 70
        · rw [if_pos ⟨c1, c2⟩] at hab
          subst hab
          go_wp2_with fail
          go_round
          case rel => exact ⟨k + 1, by omega, by go_num⟩
          case measure => simp [intOf]; omega
        · rw [if_neg (by omega)] at hab
          subst hab
          go_wp2_with fail
          go_round
          case rel => exact ⟨k + 1, by omega, by go_num⟩
          case measure => simp [intOf]; omega
      · rw [if_neg (by omega)] at hab
        subst hab
        go_wp2_with fail
        go_round
        case rel => exact ⟨k + 1, by omega, by go_num⟩
        case measure => simp [intOf]; omega
    · have hge : ¬ (k : Int) < t.size := by rw [HS.out]; omega
      go_wp2_with (go_at_call 9; refine (alive_any _).mono ?_; rintro e w' ⟨rfl, hg⟩)
      go_ret
      exact ⟨rfl, B8.trans (hg.mono B8.size)⟩
theorem back_walk (A : Option Addr) (n c : Nat) (s : ByteArray) (xs : List Int) (w : World) (ha : Nums .u8 w w.heap.size A n xs) (hy : ∀ x ∈ xs, Byte x) (hn : n ≤ 9223372036854775807) (hs : s.size ≤ 9223372036854775807) :
    Calls Try.prog 6 #[.slice A n c, .string s] w (AliveRet w) := by
  by_cases h : 3000 < n ∨ 3000 < s.size
  · exact back_long A n c s w hn hs h
  · rcases e : unhexL (strL s) with _ | ys
    · exact back_no A n c s xs w ha hy (by omega) (by omega) e
    · exact back_some A n c s xs ys w ha hy (by omega) (by omega) e
end Go.Proofs.Ytbdppelkefhieaa.hexC
