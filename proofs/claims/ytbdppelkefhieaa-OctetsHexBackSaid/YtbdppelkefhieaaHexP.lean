/-
  The walk of the second statement of octets.
-/
import Derived.Test.YtbdppelkefhieaaHexX
import Derived.Test.YtbdppelkefhieaaOctG
import Derived.Deep.RegionHeld3
namespace Go.Proofs.Ytbdppelkefhieaa.hexC
open Go.ChangeShapes Go.WideShapes Go.ChangeAt Go.RowKit
open Go.Proofs.Ytbdppelkefhieaa.memC Go.Proofs.Ytbdppelkefhieaa.hexM Go.Proofs.Ytbdppelkefhieaa.octC
set_option linter.unusedVariables false
def bsOf (l : List Int) : List Int := (unhexL l).getD []
def erOf (l : List Int) : Int := if (unhexL l).isSome then 0 else 3
def UnAny (w : World) (l : List Int) (e : Ending) (w' : World) : Prop := ∃ A n c, e = .returned (.tuple #[.slice A n c, .int .i64 (erOf l)]) ∧ Nums .u8 w' w'.heap.size A n (bsOf l) ∧ n ≤ c ∧ c ≤ 9223372036854775807 ∧ Below w.heap.size w w'
theorem un_some {w : World} {l bs : List Int} (h : unhexL l = some bs) : ∀ e w', UnOk w bs e w' → UnAny w l e w' := by
  rintro e w' ⟨A, c, rfl, h1, h2, N, B⟩
  exact ⟨A, bs.length, c, by simp [erOf, h], by simpa [bsOf, h] using N, h1, h2, B⟩
theorem un_none {w : World} {l : List Int} (h : unhexL l = none) : ∀ e w', UnNo w e w' → UnAny w l e w' := by
  rintro e w' ⟨rfl, B⟩
  exact ⟨none, 0, 0, by simp [erOf, h], by simpa [bsOf, h] using Nums.none_ 0, Nat.le_refl _, Nat.zero_le _, B⟩
theorem unhex_any (s : ByteArray) (w : World) (hs : s.size ≤ 10000) : Calls Try.prog 14 #[.string s] w (UnAny w (strL s)) := by
  rcases h : unhexL (strL s) with _ | bs
  · exact (unhex_no s w h hs).mono fun e w' k => un_none h e w' k
  · exact (unhex_ok s bs w h hs).mono fun e w' k => un_some h e w' k
theorem unhexref_any (s : ByteArray) (w : World) (hs : s.size ≤ 10000) : Calls Try.prog 15 #[.string s] w (UnAny w (strL s)) := by
  rcases h : unhexL (strL s) with _ | bs
  · exact (unhexref_no s w h hs).mono fun e w' k => un_none h e w' k
  · exact (unhexref_ok s bs w h hs).mono fun e w' k => un_some h e w' k
theorem equal_any (A : Option Addr) (n c : Nat) (A2 : Option Addr) (m c2 : Nat) (xs ys : List Int) (w : World) (h1 : Nums .u8 w w.heap.size A n xs) (h2 : Nums .u8 w w.heap.size A2 m ys) :
    Calls Try.prog 32 #[.slice A n c, .slice A2 m c2] w fun e w' => e = .returned (.bool ((strOfNums xs).toList == (strOfNums ys).toList)) ∧ w = w' := by
  have c1 := str_at h1 c
  have c2' := str_at h2 c2
  go_enter Try.func32, Try.ntmps32
  go_wp2_with fail
  go_ret
  exact ⟨rfl, rfl⟩
theorem same_any (A : Option Addr) (n c : Nat) (A2 : Option Addr) (m c2 : Nat) (xs ys : List Int) (w : World) (h1 : Nums .u8 w w.heap.size A n xs) (h2 : Nums .u8 w w.heap.size A2 m ys) :
    Calls Try.prog 18 #[.slice A n c, .slice A2 m c2] w fun e w' => e = .returned (.bool ((strOfNums xs).toList == (strOfNums ys).toList)) ∧ w = w' := by
  go_enter Try.func18, Try.ntmps18
  go_wp2_with (go_at_call 32; refine (equal_any _ _ _ _ _ _ xs ys _ h1 h2).mono ?_; rintro e w' ⟨rfl, rfl⟩)
  go_ret
  exact ⟨rfl, rfl⟩
set_option maxRecDepth 100000 in
set_option maxHeartbeats 400000 in
theorem hexes_long (A : Option Addr) (n c : Nat) (A2 : Option Addr) (m c2 : Nat) (s : ByteArray) (w : World) (hn : n ≤ 9223372036854775807) (hm : m ≤ 9223372036854775807) (hs : s.size ≤ 9223372036854775807) (h : 3000 < n ∨ 3000 < m ∨ 3000 < s.size) :
    Calls Try.prog 4 #[.slice A n c, .slice A2 m c2, .string s] w (AliveRet w) := by
  by_cases h1 : 3000 < n
  · have d1 : decide (3000 < n) = true := by simpa using h1
    clear h
    go_enter Try.func4, Try.ntmps4
    go_wp2_with (first
      | (go_at_call 8; refine (long_any _ _ _ _ hn).mono ?_; rintro e w' ⟨rfl, rfl⟩)
      | (go_at_call 9; refine (alive_any _).mono ?_; rintro e w' ⟨rfl, hg⟩))
    go_ret
    exact ⟨rfl, hg⟩
  · have d1 : decide (3000 < n) = false := by simpa using h1
    by_cases h2 : 3000 < m
    · have d2 : decide (3000 < m) = true := by simpa using h2
      clear h h1
      go_enter Try.func4, Try.ntmps4
      go_wp2_with (first
        | (go_at_call 8; (with_reducible refine (long_any _ _ _ _ hn).mono ?_); rintro e w' ⟨rfl, rfl⟩)
        | (go_at_call 8; (with_reducible refine (long_any _ _ _ _ hm).mono ?_); rintro e w' ⟨rfl, rfl⟩)
        | (go_at_call 9; refine (alive_any _).mono ?_; rintro e w' ⟨rfl, hg⟩))
      go_ret
      exact ⟨rfl, hg⟩
    · have d2 : decide (3000 < m) = false := by simpa using h2
      have h3 : (3000 : Int) < s.size := by omega
      clear h h1 h2
      go_enter Try.func4, Try.ntmps4
      go_wp2_with (first
        | (go_at_call 8; (with_reducible refine (long_any _ _ _ _ hn).mono ?_); rintro e w' ⟨rfl, rfl⟩)
        | (go_at_call 8; (with_reducible refine (long_any _ _ _ _ hm).mono ?_); rintro e w' ⟨rfl, rfl⟩)
        | (go_at_call 9; refine (alive_any _).mono ?_; rintro e w' ⟨rfl, hg⟩))
      go_ret
      exact ⟨rfl, hg⟩
/-- what the draw keeps -/
def Hold (w wx : World) (A A2 A3 A4 : Option Addr) (n m n3 n4 : Nat) (xs ys zs : List Int) (W : World) : Prop :=
  Nums .u8 W wx.heap.size A n xs ∧ Nums .u8 W wx.heap.size A2 m ys ∧ Nums .u8 W wx.heap.size A3 n3 zs ∧ Nums .u8 W wx.heap.size A4 n4 zs ∧ wx.heap.size ≤ W.heap.size ∧ Below w.heap.size w W
theorem Hold.below {w wx W W' : World} {A A2 A3 A4 : Option Addr} {n m n3 n4 : Nat} {xs ys zs : List Int} (h : Hold w wx A A2 A3 A4 n m n3 n4 xs ys zs W) (hw : w.heap.size ≤ wx.heap.size) (b : Below W.heap.size W W') : Hold w wx A A2 A3 A4 n m n3 n4 xs ys zs W' := by
  obtain ⟨h1, h2, h3, h4, h5, h6⟩ := h
  have b' := b.mono h5
  exact ⟨h1.below b', h2.below b', h3.below b', h4.below b', Nat.le_trans h5 b.size, h6.trans (b.mono (by omega))⟩
theorem Hold.conv {w wx W : World} {A A2 A3 A4 : Option Addr} {n m n3 n4 : Nat} {xs ys zs : List Int} (h : Hold w wx A A2 A3 A4 n m n3 n4 xs ys zs W) (c c2 c3 c4 : Nat) :
    (convert 22 9 (.slice A n c)).run Try.prog W = .ok (.string (strOfNums xs)) W ∧ (convert 22 9 (.slice A2 m c2)).run Try.prog W = .ok (.string (strOfNums ys)) W ∧
    (convert 22 9 (.slice A3 n3 c3)).run Try.prog W = .ok (.string (strOfNums zs)) W ∧ (convert 22 9 (.slice A4 n4 c4)).run Try.prog W = .ok (.string (strOfNums zs)) W ∧
    Hold w wx A A2 A3 A4 n m n3 n4 xs ys zs W :=
  ⟨str_at h.1 c, str_at h.2.1 c2, str_at h.2.2.1 c3, str_at h.2.2.2.1 c4, h⟩
theorem Hold.a {c1 c2 c3 c4 : Prop} {w wx W : World} {A A2 A3 A4 : Option Addr} {n m n3 n4 : Nat} {xs ys zs : List Int} (h : c1 ∧ c2 ∧ c3 ∧ c4 ∧ Hold w wx A A2 A3 A4 n m n3 n4 xs ys zs W) : Nums .u8 W W.heap.size A n xs :=
  h.2.2.2.2.1.more h.2.2.2.2.2.2.2.2.1
theorem Hold.b {c1 c2 c3 c4 : Prop} {w wx W : World} {A A2 A3 A4 : Option Addr} {n m n3 n4 : Nat} {xs ys zs : List Int} (h : c1 ∧ c2 ∧ c3 ∧ c4 ∧ Hold w wx A A2 A3 A4 n m n3 n4 xs ys zs W) : Nums .u8 W W.heap.size A2 m ys :=
  h.2.2.2.2.2.1.more h.2.2.2.2.2.2.2.2.1
theorem Hold.bel {c1 c2 c3 c4 : Prop} {w wx W : World} {A A2 A3 A4 : Option Addr} {n m n3 n4 : Nat} {xs ys zs : List Int} (h : c1 ∧ c2 ∧ c3 ∧ c4 ∧ Hold w wx A A2 A3 A4 n m n3 n4 xs ys zs W) : Below w.heap.size w W := h.2.2.2.2.2.2.2.2.2
theorem Hold.keep {c1 c2 c3 c4 : Prop} {w wx W W' : World} {A A2 A3 A4 : Option Addr} {n m n3 n4 c c2' c3' c4' : Nat} {xs ys zs : List Int} (b : Below W.heap.size W W') (hw : w.heap.size ≤ wx.heap.size) (h : c1 ∧ c2 ∧ c3 ∧ c4 ∧ Hold w wx A A2 A3 A4 n m n3 n4 xs ys zs W) :
    (convert 22 9 (.slice A n c)).run Try.prog W' = .ok (.string (strOfNums xs)) W' ∧ (convert 22 9 (.slice A2 m c2')).run Try.prog W' = .ok (.string (strOfNums ys)) W' ∧
    (convert 22 9 (.slice A3 n3 c3')).run Try.prog W' = .ok (.string (strOfNums zs)) W' ∧ (convert 22 9 (.slice A4 n4 c4')).run Try.prog W' = .ok (.string (strOfNums zs)) W' ∧
    Hold w wx A A2 A3 A4 n m n3 n4 xs ys zs W' := (h.2.2.2.2.below hw b).conv _ _ _ _
set_option maxRecDepth 100000 in
set_option maxHeartbeats 2000000 in
theorem hexes_short (A : Option Addr) (n c : Nat) (A2 : Option Addr) (m c2 : Nat) (s : ByteArray) (xs ys : List Int) (w : World) (ha : Nums .u8 w w.heap.size A n xs) (hb : Nums .u8 w w.heap.size A2 m ys)
    (hy : ∀ x ∈ xs, Byte x) (hn : n ≤ 3000) (hm : m ≤ 3000) (hs : s.size ≤ 3000) :
    Calls Try.prog 4 #[.slice A n c, .slice A2 m c2, .string s] w (AliveRet w) := by
  have d1 : decide (3000 < n) = false := by simpa using hn
  have d2 : decide (3000 < m) = false := by simpa using hm
  have HY := Lib.hid hy
  clear hy
  go_enter Try.func4, Try.ntmps4
  go_wp2_with (first
    | (go_at_call 8; (with_reducible refine (long_any A _ _ _ (by omega)).mono ?_); rintro e w' ⟨rfl, rfl⟩)
    | (go_at_call 8; (with_reducible refine (long_any A2 _ _ _ (by omega)).mono ?_); rintro e w' ⟨rfl, rfl⟩)
    | (go_at_call 14
       refine (unhex_any s _ (by omega)).mono ?_
       rintro e w1 ⟨A3, n3, c3, rfl, N3, g3, g3', B3⟩)
    | (go_at_call 15
       refine (unhexref_any s _ (by omega)).mono ?_
       rintro e w2 ⟨A4, n4, c4, rfl, N4, g4, g4', B4⟩))
  have H0 : Hold w w2 A A2 A3 A4 n m n3 n4 xs ys (bsOf (strL s)) w2 :=
    have B5 : Below w.heap.size w w2 := B3.trans (B4.mono B3.size)
    ⟨(ha.below B5).more B5.size, (hb.below B5).more B5.size, (N3.below B4).more B4.size, N4, Nat.le_refl _, B5⟩
  have hle : w.heap.size ≤ w2.heap.size := Nat.le_trans B3.size B4.size
  clear B3 B4 N3 N4 ha hb
  go_region_held3 (fun w' => (convert 22 9 (.slice A n c)).run Try.prog w' = .ok (.string (strOfNums xs)) w' ∧ (convert 22 9 (.slice A2 m c2)).run Try.prog w' = .ok (.string (strOfNums ys)) w' ∧
    (convert 22 9 (.slice A3 n3 c3)).run Try.prog w' = .ok (.string (strOfNums (bsOf (strL s)))) w' ∧ (convert 22 9 (.slice A4 n4 c4)).run Try.prog w' = .ok (.string (strOfNums (bsOf (strL s)))) w' ∧
    Hold w w2 A A2 A3 A4 n m n3 n4 xs ys (bsOf (strL s)) w')
    (first | exact (H0.below hle (Below.refl _ _).drew).conv _ _ _ _ | exact Hold.keep hg hle (by assumption) | go_keep)
    (first
      | (go_at_call 16; refine (hex_any _ _ _ xs _ (by exact Hold.a (by assumption)) (by omega) HY.out).mono ?_; rintro e w' ⟨rfl, hg⟩)
      | (go_at_call 17; refine (hexref_any _ _ _ xs _ (by exact Hold.a (by assumption)) (by omega) HY.out).mono ?_; rintro e w' ⟨rfl, hg⟩)
      | (go_at_call 18; refine (same_any _ _ _ _ _ _ xs ys _ (by exact Hold.a (by assumption)) (by exact Hold.b (by assumption))).mono ?_; rintro e w' ⟨rfl, rfl⟩)
      | (go_at_call 9; refine (alive_any _).mono ?_; rintro e w' ⟨rfl, hg⟩))
  go_wp2
  go_ret
  exact ⟨rfl, Hold.bel (by assumption)⟩
theorem hexes_walk (A : Option Addr) (n c : Nat) (A2 : Option Addr) (m c2 : Nat) (s : ByteArray) (xs ys : List Int) (w : World) (ha : Nums .u8 w w.heap.size A n xs) (hb : Nums .u8 w w.heap.size A2 m ys)
    (hy : ∀ x ∈ xs, Byte x) (hn : n ≤ 9223372036854775807) (hm : m ≤ 9223372036854775807) (hs : s.size ≤ 9223372036854775807) :
    Calls Try.prog 4 #[.slice A n c, .slice A2 m c2, .string s] w (AliveRet w) := by
  by_cases h : 3000 < n ∨ 3000 < m ∨ 3000 < s.size
  · exact hexes_long A n c A2 m c2 s w hn hm hs h
  · exact hexes_short A n c A2 m c2 s xs ys w ha hb hy (by omega) (by omega) (by omega)
end Go.Proofs.Ytbdppelkefhieaa.hexC
