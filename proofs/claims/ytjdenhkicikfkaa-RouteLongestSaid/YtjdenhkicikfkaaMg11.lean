/-
  1 texts of a proof, joined.
-/
import Derived.Test.YtjdenhkicikfkaaMg2
import Derived.Lib.Bytealg
import Derived.Lib.BytesEntry

/-
  bytes.Compare: which of two slices of bytes is ahead.
-/
namespace Go.Proofs.Ytjdenhkicikfkaa.adC
open Go.ChangeShapes Go.WideShapes Go.ChangeAt Go.RowKit
open Go.Proofs.Ytjdenhkicikfkaa.memC Go.Proofs.Ytjdenhkicikfkaa.genC
set_option linter.unusedVariables false
/-- which of two lists of numbers is ahead: -1, 0, 1 -/
def lexL : List Int → List Int → Int
  | [], [] => 0
  | [], _ :: _ => -1
  | _ :: _, [] => 1
  | x :: a, y :: b => if x < y then -1 else if y < x then 1 else lexL a b
theorem lexL_self : ∀ (a : List Int), lexL a a = 0
  | [] => rfl
  | x :: a => by unfold lexL; rw [if_neg (by omega), if_neg (by omega)]; exact lexL_self a
theorem lexL_three : ∀ (a b : List Int), lexL a b = -1 ∨ lexL a b = 0 ∨ lexL a b = 1
  | [], [] => .inr (.inl rfl)
  | [], _ :: _ => .inl rfl
  | _ :: _, [] => .inr (.inr rfl)
  | x :: a, y :: b => by
    unfold lexL
    split
    · exact .inl rfl
    · split
      · exact .inr (.inr rfl)
      · exact lexL_three a b
theorem lexL_turn : ∀ (a b : List Int), lexL b a = -lexL a b
  | [], [] => rfl
  | [], _ :: _ => rfl
  | _ :: _, [] => rfl
  | x :: a, y :: b => by
    unfold lexL
    rcases Int.lt_trichotomy x y with h | h | h
    · rw [if_neg (by omega : ¬ y < x), if_pos h, if_pos h]; rfl
    · subst h
      rw [if_neg (by omega : ¬ x < x), if_neg (by omega : ¬ x < x), if_neg (by omega : ¬ x < x), if_neg (by omega : ¬ x < x)]
      exact lexL_turn a b
    · rw [if_pos h, if_neg (by omega : ¬ x < y), if_pos h]
theorem lexL_zero : ∀ (a b : List Int), lexL a b = 0 → a = b
  | [], [], _ => rfl
  | [], _ :: _, h => by simp [lexL] at h
  | _ :: _, [], h => by simp [lexL] at h
  | x :: a, y :: b, h => by
    unfold lexL at h
    by_cases h1 : x < y
    · rw [if_pos h1] at h; cases h
    · by_cases h2 : y < x
      · rw [if_neg h1, if_pos h2] at h; cases h
      · rw [if_neg h1, if_neg h2] at h
        obtain rfl : x = y := by omega
        rw [lexL_zero a b h]
theorem lexL_on : ∀ (a b c : List Int), lexL a b ≤ 0 → lexL b c ≤ 0 → lexL a c ≤ 0
  | [], _, [], _, _ => by simp [lexL]
  | [], _, _ :: _, _, _ => by simp [lexL]
  | _ :: _, [], _, h, _ => by simp [lexL] at h
  | _ :: _, _ :: _, [], _, h => by simp [lexL] at h
  | x :: a, y :: b, z :: c, h1, h2 => by
    unfold lexL at h1 h2 ⊢
    by_cases e1 : x < z
    · rw [if_pos e1]; decide
    · rw [if_neg e1]
      have hyx : ¬ y < x := fun h => by rw [if_neg (by omega), if_pos h] at h1; exact absurd h1 (by decide)
      have hzy : ¬ z < y := fun h => by rw [if_neg (by omega), if_pos h] at h2; exact absurd h2 (by decide)
      obtain rfl : x = y := by omega
      obtain rfl : x = z := by omega
      rw [if_neg hyx, if_neg hyx] at h1 h2
      rw [if_neg hyx]
      exact lexL_on a b c h1 h2
theorem u8_lt {x y : Int} (hx : Byte x) (hy : Byte y) : UInt8.ofNat x.toNat < UInt8.ofNat y.toNat ↔ x < y := by
  obtain ⟨h1, h2⟩ := hx
  obtain ⟨h3, h4⟩ := hy
  rw [UInt8.lt_iff_toNat_lt, UInt8.toNat_ofNat', UInt8.toNat_ofNat']
  omega
theorem lexL_bytes : ∀ (a b : List Int), (∀ x ∈ a, Byte x) → (∀ x ∈ b, Byte x) → Lib.compareBytes (Lib.bytesOf a) (Lib.bytesOf b) = lexL a b
  | [], [], _, _ => rfl
  | [], _ :: _, _, _ => rfl
  | _ :: _, [], _, _ => rfl
  | x :: a, y :: b, ha, hb => by
    have ih := lexL_bytes a b (fun z hz => ha z (by simp [hz])) (fun z hz => hb z (by simp [hz]))
    have h1 := u8_lt (ha x (by simp)) (hb y (by simp))
    have h2 := u8_lt (hb y (by simp)) (ha x (by simp))
    unfold lexL
    show (if UInt8.ofNat x.toNat < UInt8.ofNat y.toNat then (-1 : Int) else if UInt8.ofNat y.toNat < UInt8.ofNat x.toNat then 1 else Lib.compareBytes (Lib.bytesOf a) (Lib.bytesOf b)) = _
    rw [ih]
    by_cases h3 : x < y
    · rw [if_pos (h1.2 h3), if_pos h3]
    · rw [if_neg (fun h => h3 (h1.1 h)), if_neg h3]
      by_cases h4 : y < x
      · rw [if_pos (h2.2 h4), if_pos h4]
      · rw [if_neg (fun h => h4 (h2.1 h)), if_neg h4]
theorem run_bytesOf {P : Program} {w : World} {B : Nat} {A : Option Addr} {n : Nat} {xs : List Int} (h : Nums .u8 w B A n xs) (c : Nat) :
    (Extern.Bytes.bytesOf (.slice A n c)).run P w = .ok ⟨(Lib.bytesOf xs).toArray⟩ w := by
  cases A with
  | none =>
    have h0 : n = 0 := by
      rcases Nat.eq_zero_or_pos n with h0 | h0
      · exact h0
      · obtain ⟨b, o, h, _⟩ := h.at_ h0
        cases h
    subst h0
    obtain rfl := h.zero
    rfl
  | some ad =>
    have hl := Lib.run_loadBytesX (P := P) w xs ad .empty (fun j x hj => by
      have hjl : j < xs.length := (List.getElem?_eq_some_iff.1 hj).1
      obtain ⟨b, o, e, _, hc⟩ := h.at_ (by have := h.len; omega)
      obtain rfl := Option.some.inj e
      rw [memC.add_plain, hc j (by rw [← h.len]; exact hjl), List.getD_eq_getElem?_getD, hj]
      rfl)
    rw [h.len] at hl
    have he : (⟨ByteArray.empty.data ++ (Lib.bytesOf xs).toArray⟩ : ByteArray) = ⟨(Lib.bytesOf xs).toArray⟩ := by
      apply ByteArray.ext
      show (#[] : Array UInt8) ++ (Lib.bytesOf xs).toArray = (Lib.bytesOf xs).toArray
      simp
    rw [he] at hl
    exact hl
theorem run_comp {P : Program} {w : World} {B B' : Nat} {A A' : Option Addr} {n n' : Nat} {xs ys : List Int} (h : Nums .u8 w B A n xs) (h' : Nums .u8 w B' A' n' ys) (c c' : Nat) (hx : ∀ x ∈ xs, Byte x) (hy : ∀ x ∈ ys, Byte x) :
    (Extern.BytealgCompare.compare #[.slice A n c, .slice A' n' c']).run P w = .ok (.int .i64 (lexL xs ys)) w := by
  change Sem.run P (do pure (goInt (Extern.BytealgCompare.cmp (← Extern.Bytes.bytesOf (.slice A n c)) (← Extern.Bytes.bytesOf (.slice A' n' c'))))) w = _
  simp only [Sem.run_bind, Sem.run_pure, Result.andThen, run_bytesOf h c, run_bytesOf h' c']
  rw [Lib.cmp_eq]
  show Result.ok (goInt (Lib.compareBytes (Lib.bytesOf xs).toArray.toList (Lib.bytesOf ys).toArray.toList)) w = _
  rw [List.toList_toArray, List.toList_toArray, lexL_bytes xs ys hx hy]
  rfl
set_option maxRecDepth 100000 in
theorem bcomp_any (A A' : Option Addr) (n n' c c' : Nat) (xs ys : List Int) (w : World) {B B' : Nat} (h : Nums .u8 w B A n xs) (h' : Nums .u8 w B' A' n' ys) (hx : ∀ x ∈ xs, Byte x) (hy : ∀ x ∈ ys, Byte x) :
    Calls Try.prog 39 #[.slice A n c, .slice A' n' c'] w fun e w' => e = .returned (.int .i64 (lexL xs ys)) ∧ w' = w := by
  have hr := Lib.hid (run_comp (P := Try.prog) h h' c c' hx hy)
  generalize lexL xs ys = r at *
  clear h h' hx hy
  go_enter Try.func39, Try.ntmps39
  go_wp2
  rw [run_callFunc_extern Try.func51 (by kernel_rfl) (by kernel_rfl) (by kernel_rfl) (e := Extern.BytealgCompare.compare) (by kernel_rfl), hr.out]
  simp only [Result.andThen]
  rw [Oper.upon_value]
  go_wp2
  go_ret
  exact ⟨rfl, rfl⟩
end Go.Proofs.Ytjdenhkicikfkaa.adC
