/-
  SHA-1 over numbers, in the walk's own spelling.
-/
import Derived.Test.YtbpolandhjcggaaGen
namespace Go.Proofs.Ytbpolandhjcggaa.shaM
open Go.ChangeShapes Go.WideShapes Go.ChangeAt Go.RowKit
open Go.Proofs.Ytbpolandhjcggaa.genC
set_option linter.unusedVariables false
def W32 (x : Int) : Prop := 0 ≤ x ∧ x ≤ 4294967295
def rol (n : Int) (s : Nat) : Int := bits .or .u32 (n * 2 ^ s % 4294967296) (n / 2 ^ (32 - s))
def xo (a b : Int) : Int := bits .xor .u32 a b
def an (a b : Int) : Int := bits .and .u32 a b
def ro (a b : Int) : Int := bits .or .u32 a b
def nt (a : Int) : Int := bits .xor .u32 IntKind.u32.max a
def ad (a b : Int) : Int := (a + b) % 4294967296
theorem w32_bits (op : BinOp) (a b : Int) : W32 (bits op .u32 a b) := bounds_u32 (wf_bits op .u32 a b)
theorem w32_rol (n : Int) (s : Nat) : W32 (rol n s) := w32_bits _ _ _
theorem w32_xo (a b : Int) : W32 (xo a b) := w32_bits _ _ _
theorem w32_an (a b : Int) : W32 (an a b) := w32_bits _ _ _
theorem w32_ro (a b : Int) : W32 (ro a b) := w32_bits _ _ _
theorem w32_ad (a b : Int) : W32 (ad a b) := by unfold W32 ad; omega
/-- four bytes as a number -/
def word (bs : List Int) (t : Nat) : Int := bs.getD (4 * t) 0 * 16777216 + bs.getD (4 * t + 1) 0 * 65536 + bs.getD (4 * t + 2) 0 * 256 + bs.getD (4 * t + 3) 0
/-- number t of a block, the earlier ones known -/
def nextW (bs ws : List Int) (t : Nat) : Int :=
  if t < 16 then word bs t else rol (xo (xo (xo (ws.getD (t - 3) 0) (ws.getD (t - 8) 0)) (ws.getD (t - 14) 0)) (ws.getD (t - 16) 0)) 1
/-- a block's first t numbers -/
def sched (bs : List Int) : Nat → List Int
  | 0 => []
  | t + 1 => sched bs t ++ [nextW bs (sched bs t) t]
theorem sched_len (bs : List Int) (t : Nat) : (sched bs t).length = t := by
  induction t with
  | zero => rfl
  | succ t ih => simp [sched, ih]
theorem word_w32 {bs : List Int} {t : Nat} (h : ∀ x ∈ bs, Byte x) (hl : 4 * t + 3 < bs.length) : W32 (word bs t) := by
  have h1 := getD_byte h (k := 4 * t) (by omega)
  have h2 := getD_byte h (k := 4 * t + 1) (by omega)
  have h3 := getD_byte h (k := 4 * t + 2) (by omega)
  have h4 := getD_byte h (k := 4 * t + 3) (by omega)
  unfold Byte at h1 h2 h3 h4
  unfold W32 word
  omega
theorem sched_w32 {bs : List Int} (h : ∀ x ∈ bs, Byte x) (hl : bs.length = 64) : ∀ t, ∀ x ∈ sched bs t, W32 x
  | 0, x, hx => by simp [sched] at hx
  | t + 1, x, hx => by
    simp only [sched, List.mem_append, List.mem_singleton] at hx
    rcases hx with hx | rfl
    · exact sched_w32 h hl t x hx
    · unfold nextW; split
      · exact word_w32 h (by omega)
      · exact w32_rol _ _
def fN (t : Nat) (b c d : Int) : Int := if t / 20 = 0 then ro (an b c) (an (nt b) d) else if t / 20 = 2 then ro (ro (an b c) (an b d)) (an c d) else xo (xo b c) d
def kN (t : Nat) : Int := if t / 20 = 0 then 1518500249 else if t / 20 = 2 then 2400959708 else if t / 20 = 3 then 3395469782 else 1859775393
/-- the five numbers behind t steps -/
def steps (ws h : List Int) : Nat → List Int
  | 0 => h
  | t + 1 =>
    let x := steps ws h t
    [ad (ad (ad (ad (rol (x.getD 0 0) 5) (fN t (x.getD 1 0) (x.getD 2 0) (x.getD 3 0))) (x.getD 4 0)) (ws.getD t 0)) (kN t), x.getD 0 0, rol (x.getD 1 0) 30, x.getD 2 0, x.getD 3 0]
theorem step_eq {ws h : List Int} {t : Nat} {x0 x1 x2 x3 x4 y : Int} (hx : steps ws h t = [x0, x1, x2, x3, x4]) (hy : y = ws.getD t 0) :
    steps ws h (t + 1) = [ad (ad (ad (ad (rol x0 5) (fN t x1 x2 x3)) x4) y) (kN t), x0, rol x1 30, x2, x3] := by rw [steps, hx, hy]; rfl
theorem steps_len {ws h : List Int} (hl : h.length = 5) : ∀ t, (steps ws h t).length = 5
  | 0 => hl
  | t + 1 => rfl
theorem steps_w32 {ws h : List Int} (hl : h.length = 5) (hw : ∀ x ∈ h, W32 x) : ∀ t, ∀ x ∈ steps ws h t, W32 x
  | 0, x, hx => hw x hx
  | t + 1, x, hx => by
    have hg : ∀ j, j < 5 → W32 ((steps ws h t).getD j 0) := fun j hj => by
      rw [List.getD_eq_getElem?_getD, List.getElem?_eq_getElem (by rw [steps_len hl]; exact hj)]
      exact steps_w32 hl hw t _ (List.getElem_mem _)
    simp only [steps, List.mem_cons, List.not_mem_nil, or_false] at hx
    rcases hx with rfl | rfl | rfl | rfl | rfl
    · exact w32_ad _ _
    · exact hg 0 (by decide)
    · exact w32_rol _ _
    · exact hg 2 (by decide)
    · exact hg 3 (by decide)
/-- the five numbers behind a block -/
def blk (h bs : List Int) : List Int := List.zipWith ad h (steps (sched bs 80) h 80)
end Go.Proofs.Ytbpolandhjcggaa.shaM
