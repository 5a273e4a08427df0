/-
  Hex digits: plain mathematics.
-/
import Derived.Test.YtbdppelkefhieaaMem
namespace Go.Proofs.Ytbdppelkefhieaa.hexM
open Go.Proofs.Ytbdppelkefhieaa.memC
set_option linter.unusedVariables false
/-- what a hex digit stands for; 16: it is none -/
def nib (c : Int) : Int := if 48 ≤ c ∧ c ≤ 57 then c - 48 else if 97 ≤ c ∧ c ≤ 102 then c - 87 else if 65 ≤ c ∧ c ≤ 70 then c - 55 else 16
theorem nib_bd (c : Int) : 0 ≤ nib c ∧ nib c ≤ 16 := by unfold nib; split <;> (try split) <;> (try split) <;> omega
/-- the small digit of a number below 16 -/
def hexD (x : Int) : Int := if x < 10 then x + 48 else x + 87
theorem nib_hexD (x : Int) (h0 : 0 ≤ x) (h1 : x ≤ 15) : nib (hexD x) = x := by unfold hexD nib; split <;> (split <;> (try split) <;> (try split) <;> omega)
theorem hexD_bd (x : Int) (h0 : 0 ≤ x) (h1 : x ≤ 15) : 0 ≤ hexD x ∧ hexD x ≤ 255 := by unfold hexD; split <;> omega
def lower (c : Int) : Int := if 65 ≤ c ∧ c ≤ 70 then c + 32 else c
theorem hexD_nib (c : Int) (h : nib c ≤ 15) : hexD (nib c) = lower c := by
  unfold hexD lower; unfold nib at *
  split at h <;> (try split at h) <;> (try split at h) <;> (repeat' split) <;> omega
def hexL (bs : List Int) : List Int := bs.flatMap fun b => [hexD (b / 16), hexD (b % 16)]
theorem hexL_len (bs : List Int) : (hexL bs).length = 2 * bs.length := by
  induction bs with
  | nil => rfl
  | cons b bs ih => rw [hexL, List.flatMap_cons, List.length_append, List.length_cons]; rw [hexL] at ih; rw [ih]; simp; omega
def unhexL : List Int → Option (List Int)
  | [] => some []
  | [_] => none
  | a :: b :: r => if nib a ≤ 15 ∧ nib b ≤ 15 then (unhexL r).map (fun q => (nib a * 16 + nib b) :: q) else none
theorem unhex_hex (bs : List Int) (h : ∀ x ∈ bs, 0 ≤ x ∧ x ≤ 255) : unhexL (hexL bs) = some bs := by
  induction bs with
  | nil => rfl
  | cons b bs ih =>
    have hb := h b (by simp)
    have e : hexL (b :: bs) = hexD (b / 16) :: hexD (b % 16) :: hexL bs := by simp [hexL]
    have n1 := nib_hexD (b / 16) (by omega) (by omega)
    have n2 := nib_hexD (b % 16) (by omega) (by omega)
    rw [e, unhexL, n1, n2, if_pos (by omega), ih fun x hx => h x (by simp [hx])]
    simp; omega
theorem unhex_spec : ∀ (l ys : List Int), unhexL l = some ys → hexL ys = l.map lower ∧ ∀ y ∈ ys, 0 ≤ y ∧ y ≤ 255
  | [], ys, h => by simp [unhexL] at h; subst h; simp [hexL]
  | [_], ys, h => by simp [unhexL] at h
  | a :: b :: r, ys, h => by
    rw [unhexL] at h
    by_cases hc : nib a ≤ 15 ∧ nib b ≤ 15
    · rw [if_pos hc] at h
      obtain ⟨zs, hz, rfl⟩ := Option.map_eq_some_iff.1 h
      obtain ⟨e, hy⟩ := unhex_spec r zs hz
      have ha := nib_bd a
      have hb := nib_bd b
      refine ⟨?_, fun y hy' => ?_⟩
      · have e1 : hexL ((nib a * 16 + nib b) :: zs) = hexD ((nib a * 16 + nib b) / 16) :: hexD ((nib a * 16 + nib b) % 16) :: hexL zs := by simp [hexL]
        rw [e1, e, show (nib a * 16 + nib b) / 16 = nib a by omega, show (nib a * 16 + nib b) % 16 = nib b by omega, hexD_nib a hc.1, hexD_nib b hc.2]
        rfl
      · rcases List.mem_cons.1 hy' with rfl | h
        · omega
        · exact hy y h
    · rw [if_neg hc] at h; cases h
theorem unhex_len (l ys : List Int) (h : unhexL l = some ys) : l.length = 2 * ys.length := by
  have := congrArg List.length (unhex_spec l ys h).1
  rw [hexL_len, List.length_map] at this
  exact this.symm
/-- a text's signs -/
def strL (s : ByteArray) : List Int := s.data.toList.map fun c => (c.toNat : Int)
theorem strL_len (s : ByteArray) : (strL s).length = s.size := by rw [strL, List.length_map]; exact Array.length_toList
theorem strL_bd (s : ByteArray) : ∀ x ∈ strL s, 0 ≤ x ∧ x ≤ 255 := by
  intro x hx
  obtain ⟨c, _, rfl⟩ := List.mem_map.1 hx
  have := c.toNat_lt
  omega
theorem strL_of (xs : List Int) (h : ∀ x ∈ xs, 0 ≤ x ∧ x ≤ 255) : strL (strOfNums xs) = xs := by
  unfold strL
  rw [strOfNums_data, List.map_map]
  have : ∀ x ∈ xs, ((fun c : UInt8 => (c.toNat : Int)) ∘ fun n : Int => UInt8.ofNat n.toNat) x = x := by
    intro x hx
    have := h x hx
    simp only [Function.comp, UInt8.toNat_ofNat']
    omega
  rw [List.map_congr_left this]; simp
theorem of_strL (s : ByteArray) : strOfNums (strL s) = s := by
  unfold strOfNums strL
  rw [List.map_map]
  have : ((fun n : Int => UInt8.ofNat n.toNat) ∘ fun c : UInt8 => (c.toNat : Int)) = id := by
    funext c; simp
  rw [this]; simp
theorem strL_get (s : ByteArray) (i : Nat) (h : i < s.size) : (strL s)[i]? = some ((s[i]).toNat : Int) := by
  unfold strL
  rw [List.getElem?_map, List.getElem?_eq_getElem (by rw [Array.length_toList]; exact h)]
  rfl
theorem drop2 {l : List Int} {i : Nat} {a b : Int} (ha : l[i]? = some a) (hb : l[i + 1]? = some b) : l.drop i = a :: b :: l.drop (i + 2) := by
  obtain ⟨h1, h1'⟩ := List.getElem?_eq_some_iff.1 ha
  obtain ⟨h2, h2'⟩ := List.getElem?_eq_some_iff.1 hb
  rw [List.drop_eq_getElem_cons h1, List.drop_eq_getElem_cons h2, h1', h2']
end Go.Proofs.Ytbdppelkefhieaa.hexM
