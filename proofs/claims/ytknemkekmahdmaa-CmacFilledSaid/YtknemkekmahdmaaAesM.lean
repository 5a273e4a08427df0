/-
  AES over numbers: bytes multiplied, the box.
-/
import Derived.Test.YtknemkekmahdmaaGen
namespace Go.Proofs.Ytknemkekmahdmaa.aesM
set_option linter.unusedVariables false
def tbl : List Nat := [99, 124, 119, 123, 242, 107, 111, 197, 48, 1, 103, 43, 254, 215, 171, 118, 202, 130, 201, 125, 250, 89, 71, 240, 173, 212, 162, 175, 156, 164, 114, 192, 183, 253, 147, 38, 54, 63, 247, 204, 52, 165, 229, 241, 113, 216, 49, 21, 4, 199, 35, 195, 24, 150, 5, 154, 7, 18, 128, 226, 235, 39, 178, 117, 9, 131, 44, 26, 27, 110, 90, 160, 82, 59, 214, 179, 41, 227, 47, 132, 83, 209, 0, 237, 32, 252, 177, 91, 106, 203, 190, 57, 74, 76, 88, 207, 208, 239, 170, 251, 67, 77, 51, 133, 69, 249, 2, 127, 80, 60, 159, 168, 81, 163, 64, 143, 146, 157, 56, 245, 188, 182, 218, 33, 16, 255, 243, 210, 205, 12, 19, 236, 95, 151, 68, 23, 196, 167, 126, 61, 100, 93, 25, 115, 96, 129, 79, 220, 34, 42, 144, 136, 70, 238, 184, 20, 222, 94, 11, 219, 224, 50, 58, 10, 73, 6, 36, 92, 194, 211, 172, 98, 145, 149, 228, 121, 231, 200, 55, 109, 141, 213, 78, 169, 108, 86, 244, 234, 101, 122, 174, 8, 186, 120, 37, 46, 28, 166, 180, 198, 232, 221, 116, 31, 75, 189, 139, 138, 112, 62, 181, 102, 72, 3, 246, 14, 97, 53, 87, 185, 134, 193, 29, 158, 225, 248, 152, 17, 105, 217, 142, 148, 155, 30, 135, 233, 206, 85, 40, 223, 140, 161, 137, 13, 191, 230, 66, 104, 65, 153, 45, 15, 176, 84, 187, 22]
/-- the box -/
def box (c : Nat) : Nat := tbl.getD c 0
/-- a byte multiplied with 2 -/
def dbl (a : Nat) : Nat := (a <<< 1) % 256 ^^^ (a >>> 7) * 27
def dblN : Nat → Nat → Nat
  | 0, a => a
  | i + 1, a => dbl (dblN i a)
/-- two bytes multiplied, by the first i bits of the second -/
def tmsN (a b : Nat) : Nat → Nat
  | 0 => 0
  | i + 1 => tmsN a b i ^^^ ((b >>> i) % 2) * dblN i a
def tms (a b : Nat) : Nat := tmsN a b 8
theorem xor_lt {a b : Nat} (ha : a < 256) (hb : b < 256) : a ^^^ b < 256 := Nat.xor_lt_two_pow (n := 8) ha hb
theorem seven {a : Nat} (h : a < 256) : a >>> 7 = 0 ∨ a >>> 7 = 1 := by rw [Nat.shiftRight_eq_div_pow]; omega
theorem seven_lt {a : Nat} (h : a < 256) : (a >>> 7) * 27 < 256 := by rcases seven h with e | e <;> rw [e] <;> decide
theorem dbl_lt {a : Nat} (h : a < 256) : dbl a < 256 := xor_lt (Nat.mod_lt _ (by decide)) (seven_lt h)
theorem x4 (a b c d : Nat) : a ^^^ b ^^^ (c ^^^ d) = a ^^^ c ^^^ (b ^^^ d) := by ac_rfl
theorem dbl_xor {a b : Nat} (ha : a < 256) (hb : b < 256) : dbl (a ^^^ b) = dbl a ^^^ dbl b := by
  unfold dbl
  rw [x4, Nat.shiftLeft_xor_distrib, show (256 : Nat) = 2 ^ 8 from rfl, Nat.xor_mod_two_pow, Nat.shiftRight_xor_distrib]
  congr 1
  rcases seven ha with e | e <;> rcases seven hb with e2 | e2 <;> rw [e, e2] <;> decide
theorem dblN_lt {a : Nat} (h : a < 256) : ∀ i, dblN i a < 256
  | 0 => h
  | i + 1 => dbl_lt (dblN_lt h i)
theorem dblN_xor {a b : Nat} (ha : a < 256) (hb : b < 256) : ∀ i, dblN i (a ^^^ b) = dblN i a ^^^ dblN i b
  | 0 => rfl
  | i + 1 => by rw [dblN, dblN_xor ha hb i, dbl_xor (dblN_lt ha i) (dblN_lt hb i)]; rfl
theorem bit01 (x : Nat) : x % 2 = 0 ∨ x % 2 = 1 := by omega
theorem bit_mul (x a b : Nat) : (x % 2) * (a ^^^ b) = (x % 2) * a ^^^ (x % 2) * b := by
  rcases bit01 x with e | e <;> rw [e] <;> simp
theorem bit_lt {a : Nat} (x : Nat) (h : a < 256) : (x % 2) * a < 256 := by
  rcases bit01 x with e | e <;> rw [e] <;> omega
theorem tmsN_lt {a : Nat} (h : a < 256) (b : Nat) : ∀ i, tmsN a b i < 256
  | 0 => by show 0 < 256; decide
  | i + 1 => xor_lt (tmsN_lt h b i) (bit_lt _ (dblN_lt h i))
theorem tms_lt {a : Nat} (h : a < 256) (b : Nat) : tms a b < 256 := tmsN_lt h b 8
theorem tmsN_xor {a b : Nat} (ha : a < 256) (hb : b < 256) (c : Nat) : ∀ i, tmsN (a ^^^ b) c i = tmsN a c i ^^^ tmsN b c i
  | 0 => by simp [tmsN]
  | i + 1 => by rw [tmsN, tmsN_xor ha hb c i, dblN_xor ha hb i, bit_mul, x4]; rfl
theorem tms_xor {a b : Nat} (ha : a < 256) (hb : b < 256) (c : Nat) : tms (a ^^^ b) c = tms a c ^^^ tms b c := tmsN_xor ha hb c 8
theorem of_all {p : Nat → Bool} (h : (List.range 256).all p = true) {c : Nat} (hc : c < 256) : p c = true := List.all_eq_true.1 h c (List.mem_range.2 hc)
theorem tms2_all : ((List.range 256).all fun x => tms x 2 == dbl x) = true := by decide +kernel
theorem tms3_all : ((List.range 256).all fun x => tms x 3 == (dbl x ^^^ x)) = true := by decide +kernel
theorem tms2 {x : Nat} (h : x < 256) : tms x 2 = dbl x := by simpa using of_all tms2_all h
theorem tms3 {x : Nat} (h : x < 256) : tms x 3 = dbl x ^^^ x := by simpa using of_all tms3_all h
theorem inv_a : ((List.range 256).all fun x => (tms (tms x 2) 14 ^^^ tms x 11 ^^^ tms x 13 ^^^ tms (tms x 3) 9) == x) = true := by decide +kernel
theorem inv_b : ((List.range 256).all fun x => (tms (tms x 3) 14 ^^^ tms (tms x 2) 11 ^^^ tms x 13 ^^^ tms x 9) == 0) = true := by decide +kernel
theorem inv_c : ((List.range 256).all fun x => (tms x 14 ^^^ tms (tms x 3) 11 ^^^ tms (tms x 2) 13 ^^^ tms x 9) == 0) = true := by decide +kernel
theorem inv_d : ((List.range 256).all fun x => (tms x 14 ^^^ tms x 11 ^^^ tms (tms x 3) 13 ^^^ tms (tms x 2) 9) == 0) = true := by decide +kernel
theorem x16 (a1 a2 a3 a4 b1 b2 b3 b4 c1 c2 c3 c4 d1 d2 d3 d4 : Nat) :
    (a1 ^^^ a2 ^^^ a3 ^^^ a4) ^^^ (b1 ^^^ b2 ^^^ b3 ^^^ b4) ^^^ (c1 ^^^ c2 ^^^ c3 ^^^ c4) ^^^ (d1 ^^^ d2 ^^^ d3 ^^^ d4) = (a1 ^^^ b4 ^^^ c3 ^^^ d2) ^^^ ((a2 ^^^ b1 ^^^ c4 ^^^ d3) ^^^ ((a3 ^^^ b2 ^^^ c1 ^^^ d4) ^^^ (a4 ^^^ b3 ^^^ c2 ^^^ d1))) := by ac_rfl
/-- a column that is multiplied, and back -/
theorem col_back {x y z u : Nat} (hx : x < 256) (hy : y < 256) (hz : z < 256) (hu : u < 256) :
    tms (tms x 2 ^^^ tms y 3 ^^^ z ^^^ u) 14 ^^^ tms (tms y 2 ^^^ tms z 3 ^^^ u ^^^ x) 11 ^^^ tms (tms z 2 ^^^ tms u 3 ^^^ x ^^^ y) 13 ^^^ tms (tms u 2 ^^^ tms x 3 ^^^ y ^^^ z) 9 = x := by
  have L : ∀ {a b c d : Nat} (ha : a < 256) (hb : b < 256) (hc : c < 256) (hd : d < 256) (e : Nat), tms (a ^^^ b ^^^ c ^^^ d) e = tms a e ^^^ tms b e ^^^ tms c e ^^^ tms d e := fun ha hb hc hd e => by
    rw [tms_xor (xor_lt (xor_lt ha hb) hc) hd, tms_xor (xor_lt ha hb) hc, tms_xor ha hb]
  rw [L (tms_lt hx 2) (tms_lt hy 3) hz hu, L (tms_lt hy 2) (tms_lt hz 3) hu hx, L (tms_lt hz 2) (tms_lt hu 3) hx hy, L (tms_lt hu 2) (tms_lt hx 3) hy hz, x16]
  have e1 : tms (tms x 2) 14 ^^^ tms x 11 ^^^ tms x 13 ^^^ tms (tms x 3) 9 = x := by simpa using of_all inv_a hx
  have e2 : tms (tms y 3) 14 ^^^ tms (tms y 2) 11 ^^^ tms y 13 ^^^ tms y 9 = 0 := by simpa using of_all inv_b hy
  have e3 : tms z 14 ^^^ tms (tms z 3) 11 ^^^ tms (tms z 2) 13 ^^^ tms z 9 = 0 := by simpa using of_all inv_c hz
  have e4 : tms u 14 ^^^ tms u 11 ^^^ tms (tms u 3) 13 ^^^ tms (tms u 2) 9 = 0 := by simpa using of_all inv_d hu
  rw [e1, e2, e3, e4]
  simp
/-- powers of a byte -/
def pw (c : Nat) : Nat → Nat
  | 0 => 1
  | k + 1 => tms (pw c k) c
def inv (c : Nat) : Nat := if c = 0 then 0 else pw c 254
/-- what a box is made of -/
def rot (x : Nat) : Nat → Nat
  | 0 => x ^^^ 99
  | i + 1 => rot x i ^^^ ((x <<< (i + 1)) % 256 ||| x >>> (8 - (i + 1)))
def rturn (x : Nat) : Nat := rot x 4
theorem box_lt_all : ((List.range 256).all fun c => decide (box c < 256)) = true := by decide +kernel
theorem box_lt (c : Nat) : box c < 256 := by
  rcases Nat.lt_or_ge c 256 with h | h
  · simpa using of_all box_lt_all h
  · unfold box; rw [List.getD_eq_getElem?_getD, List.getElem?_eq_none (by rw [show tbl.length = 256 by decide +kernel]; exact h)]; decide
/-- the boxes' numbers -/
def backS : Nat → List Nat
  | 0 => List.replicate 256 0
  | i + 1 => (backS i).set (box i) i
def back : List Nat := backS 256
theorem back_all : ((List.range 256).all fun c => back.getD (box c) 0 == c) = true := by decide +kernel
theorem back_box {c : Nat} (h : c < 256) : back.getD (box c) 0 = c := by simpa using of_all back_all h
theorem box_inj {c d : Nat} (h : c < 256) (hd : d < 256) (e : box c = box d) : c = d := by rw [← back_box h, e, back_box hd]
/-- the boxes, by powers of 3 -/
def p3 : Nat → Nat
  | 0 => 1
  | i + 1 => tms (p3 i) 3
def pows (n : Nat) : List Nat := (List.range 256).map fun i => if i < n then p3 i else 0
def outS : Nat → List Nat
  | 0 => (List.replicate 256 0).set 0 (rturn 0)
  | i + 1 => (outS i).set (p3 i) (rturn (p3 (255 - i)))
theorem out_all : outS 255 = tbl := by decide +kernel
theorem p3_lt : ∀ i, p3 i < 256
  | 0 => by show 1 < 256; decide
  | i + 1 => tms_lt (p3_lt i) 3
theorem one_all : ((List.range 256).all fun x => tms 1 x == x) = true := by decide +kernel
theorem tms_one {c : Nat} (h : c < 256) : tms 1 c = c := by simpa using of_all one_all h
theorem dblN_dbl (a : Nat) : ∀ i, dblN i (dbl a) = dbl (dblN i a)
  | 0 => rfl
  | i + 1 => by rw [dblN, dblN_dbl a i]; rfl
theorem bit_dbl (x : Nat) (a : Nat) : dbl ((x % 2) * a) = (x % 2) * dbl a := by
  rcases bit01 x with e | e <;> rw [e]
  · rw [Nat.zero_mul, Nat.zero_mul]; rfl
  · rw [Nat.one_mul, Nat.one_mul]
theorem tmsN_dbl {a : Nat} (h : a < 256) (c : Nat) : ∀ i, tmsN (dbl a) c i = dbl (tmsN a c i)
  | 0 => by show (0 : Nat) = dbl 0; decide
  | i + 1 => by rw [tmsN, tmsN_dbl h c i, dblN_dbl, tmsN, dbl_xor (tmsN_lt h c i) (bit_lt _ (dblN_lt h i)), bit_dbl]
theorem tms_thrice {x : Nat} (h : x < 256) (c : Nat) : tms (tms x 3) c = tms (tms x c) 3 := by
  rw [tms3 h, tms_xor (dbl_lt h) h, tms3 (tms_lt h c)]
  congr 1
  exact tmsN_dbl h c 8
theorem p3_add (j : Nat) : ∀ i, tms (p3 i) (p3 j) = p3 (i + j)
  | 0 => by rw [Nat.zero_add]; exact tms_one (p3_lt j)
  | i + 1 => by rw [p3, tms_thrice (p3_lt i), p3_add j i, show i + 1 + j = i + j + 1 by omega]; rfl
theorem p3_round : p3 255 = 1 := by decide +kernel
theorem p3_255 : ∀ n, p3 (n + 255) = p3 n
  | 0 => by rw [Nat.zero_add]; exact p3_round
  | n + 1 => by rw [show n + 1 + 255 = n + 255 + 1 by omega, p3, p3_255 n]; rfl
theorem p3_rounds (n : Nat) : ∀ m, p3 (255 * m + n) = p3 n
  | 0 => by rw [Nat.mul_zero, Nat.zero_add]
  | m + 1 => by rw [show 255 * (m + 1) + n = 255 * m + n + 255 by omega, p3_255, p3_rounds n m]
theorem pw_p3 (l : Nat) : ∀ k, pw (p3 l) k = p3 (l * k)
  | 0 => rfl
  | k + 1 => by rw [pw, pw_p3 l k, p3_add]; rfl
theorem pw_inv {l : Nat} (h : l < 255) : pw (p3 l) 254 = p3 (255 - l) := by
  rw [pw_p3]
  rcases Nat.eq_zero_or_pos l with h0 | h0
  · subst h0; rw [Nat.zero_mul]; exact p3_round.symm
  · rw [show l * 254 = 255 * (l - 1) + (255 - l) by omega, p3_rounds]
def plit : List Nat := [1, 3, 5, 15, 17, 51, 85, 255, 26, 46, 114, 150, 161, 248, 19, 53, 95, 225, 56, 72, 216, 115, 149, 164, 247, 2, 6, 10, 30, 34, 102, 170, 229, 52, 92, 228, 55, 89, 235, 38, 106, 190, 217, 112, 144, 171, 230, 49, 83, 245, 4, 12, 20, 60, 68, 204, 79, 209, 104, 184, 211, 110, 178, 205, 76, 212, 103, 169, 224, 59, 77, 215, 98, 166, 241, 8, 24, 40, 120, 136, 131, 158, 185, 208, 107, 189, 220, 127, 129, 152, 179, 206, 73, 219, 118, 154, 181, 196, 87, 249, 16, 48, 80, 240, 11, 29, 39, 105, 187, 214, 97, 163, 254, 25, 43, 125, 135, 146, 173, 236, 47, 113, 147, 174, 233, 32, 96, 160, 251, 22, 58, 78, 210, 109, 183, 194, 93, 231, 50, 86, 250, 21, 63, 65, 195, 94, 226, 61, 71, 201, 64, 192, 91, 237, 44, 116, 156, 191, 218, 117, 159, 186, 213, 100, 172, 239, 42, 126, 130, 157, 188, 223, 122, 142, 137, 128, 155, 182, 193, 88, 232, 35, 101, 175, 234, 37, 111, 177, 200, 67, 197, 84, 252, 31, 33, 99, 165, 244, 7, 9, 27, 45, 119, 153, 176, 203, 70, 202, 69, 207, 74, 222, 121, 139, 134, 145, 168, 227, 62, 66, 198, 81, 243, 14, 18, 54, 90, 238, 41, 123, 141, 140, 143, 138, 133, 148, 167, 242, 13, 23, 57, 75, 221, 124, 132, 151, 162, 253, 28, 36, 108, 180, 199, 82, 246]
def llit : List Nat := [0, 0, 25, 1, 50, 2, 26, 198, 75, 199, 27, 104, 51, 238, 223, 3, 100, 4, 224, 14, 52, 141, 129, 239, 76, 113, 8, 200, 248, 105, 28, 193, 125, 194, 29, 181, 249, 185, 39, 106, 77, 228, 166, 114, 154, 201, 9, 120, 101, 47, 138, 5, 33, 15, 225, 36, 18, 240, 130, 69, 53, 147, 218, 142, 150, 143, 219, 189, 54, 208, 206, 148, 19, 92, 210, 241, 64, 70, 131, 56, 102, 221, 253, 48, 191, 6, 139, 98, 179, 37, 226, 152, 34, 136, 145, 16, 126, 110, 72, 195, 163, 182, 30, 66, 58, 107, 40, 84, 250, 133, 61, 186, 43, 121, 10, 21, 155, 159, 94, 202, 78, 212, 172, 229, 243, 115, 167, 87, 175, 88, 168, 80, 244, 234, 214, 116, 79, 174, 233, 213, 231, 230, 173, 232, 44, 215, 117, 122, 235, 22, 11, 245, 89, 203, 95, 176, 156, 169, 81, 160, 127, 12, 246, 111, 23, 196, 73, 236, 216, 67, 31, 45, 164, 118, 123, 183, 204, 187, 62, 90, 251, 96, 177, 134, 59, 82, 161, 108, 170, 85, 41, 157, 151, 178, 135, 144, 97, 190, 220, 252, 188, 149, 207, 205, 55, 63, 91, 209, 83, 57, 132, 60, 65, 162, 109, 71, 20, 42, 158, 93, 86, 242, 211, 171, 68, 17, 146, 217, 35, 32, 46, 137, 180, 124, 184, 38, 119, 153, 227, 165, 103, 74, 237, 222, 197, 49, 254, 24, 13, 99, 140, 128, 192, 247, 112, 7]
theorem plit_all : (List.range 255).map p3 = plit := by decide +kernel
theorem p3_at {l : Nat} (h : l < 255) : p3 l = plit.getD l 0 := by
  rw [← plit_all, List.getD_eq_getElem?_getD, List.getElem?_map, List.getElem?_range h]; rfl
theorem log_all : ((List.range 256).all fun c => c == 0 || (decide (llit.getD c 0 < 255) && plit.getD (llit.getD c 0) 0 == c)) = true := by decide +kernel
theorem log_of {c : Nat} (h : c < 256) (h0 : c ≠ 0) : ∃ l, l < 255 ∧ p3 l = c := by
  have := of_all log_all h
  simp only [Bool.or_eq_true, Bool.and_eq_true, beq_iff_eq, decide_eq_true_eq] at this
  rcases this with e | ⟨e1, e2⟩
  · exact absurd e h0
  · exact ⟨_, e1, by rw [p3_at e1, e2]⟩
theorem box_p3 : ((List.range 255).all fun l => rturn (p3 (255 - l)) == box (p3 l)) = true := by decide +kernel
theorem rbox {c : Nat} (h : c < 256) : rturn (inv c) = box c := by
  unfold inv
  by_cases h0 : c = 0
  · subst h0; decide
  · rw [if_neg h0]
    obtain ⟨l, hl, rfl⟩ := log_of h h0
    rw [pw_inv hl]
    simpa using List.all_eq_true.1 box_p3 l (List.mem_range.2 hl)
end Go.Proofs.Ytknemkekmahdmaa.aesM
