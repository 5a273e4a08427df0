/-
  1 texts of a proof, joined.
-/
import Derived.Test.YtflfkhcbkhdahaaMg2
import Derived.Lib.Bytealg
import Derived.Lib.BytesEntry

/-
  bytes.Compare: which of two slices of bytes is ahead.
-/
namespace Go.Proofs.Ytflfkhcbkhdahaa.adC
open Go.ChangeShapes Go.WideShapes Go.ChangeAt Go.RowKit
open Go.Proofs.Ytflfkhcbkhdahaa.memC Go.Proofs.Ytflfkhcbkhdahaa.genC
set_option linter.unusedVariables false
/-- which of two lists of numbers is ahead: -1, 0, 1 -/
def lexL : List Int → List Int → Int
  | [], [] => 0
  | [], _ :: _ => -1
  | _ :: _, [] => 1
  | x :: a, y :: b => if x < y then -1 else if y < x then 1 else lexL a b
theorem lexL_self : ∀ (a : List Int), lexL a a = 0
  | [] => rfl
  | x :: a => by unfold lexL; rw [if_neg (by omega), if_neg (by omega)]; exact lexL_self a
theorem lexL_zero : ∀ (a b : List Int), lexL a b = 0 → a = b
  | [], [], _ => rfl
  | [], _ :: _, h => by simp [lexL] at h
  | _ :: _, [], h => by simp [lexL] at h
  | x :: a, y :: b, h => by
    unfold lexL at h
    by_cases h1 : x < y
    · rw [if_pos h1] at h; cases h
    · by_cases h2 : y < x
      · rw [if_neg h1, if_pos h2] at h; cases h
      · rw [if_neg h1, if_neg h2] at h
        obtain rfl : x = y := by omega
        rw [lexL_zero a b h]
theorem u8_lt {x y : Int} (hx : Byte x) (hy : Byte y) : UInt8.ofNat x.toNat < UInt8.ofNat y.toNat ↔ x < y := by
  obtain ⟨h1, h2⟩ := hx
  obtain ⟨h3, h4⟩ := hy
  rw [UInt8.lt_iff_toNat_lt, UInt8.toNat_ofNat', UInt8.toNat_ofNat']
  omega
theorem lexL_bytes : ∀ (a b : List Int), (∀ x ∈ a, Byte x) → (∀ x ∈ b, Byte x) → Lib.compareBytes (Lib.bytesOf a) (Lib.bytesOf b) = lexL a b
  | [], [], _, _ => rfl
  | [], _ :: _, _, _ => rfl
  | _ :: _, [], _, _ => rfl
  | x :: a, y :: b, ha, hb => by
    have ih := lexL_bytes a b (fun z hz => ha z (by simp [hz])) (fun z hz => hb z (by simp [hz]))
    have h1 := u8_lt (ha x (by simp)) (hb y (by simp))
    have h2 := u8_lt (hb y (by simp)) (ha x (by simp))
    unfold lexL
    show (if UInt8.ofNat x.toNat < UInt8.ofNat y.toNat then (-1 : Int) else if UInt8.ofNat y.toNat < UInt8.ofNat x.toNat then 1 else Lib.compareBytes (Lib.bytesOf a) (Lib.bytesOf b)) = _
    rw [ih]
    by_cases h3 : x < y
    · rw [if_pos (h1.2 h3), if_pos h3]
    · rw [if_neg (fun h => h3 (h1.1 h)), if_neg h3]
      by_cases h4 : y < x
      · rw [if_pos (h2.2 h4), if_pos h4]
      · rw [if_neg (fun h => h4 (h2.1 h)), if_neg h4]
end Go.Proofs.Ytflfkhcbkhdahaa.adC
