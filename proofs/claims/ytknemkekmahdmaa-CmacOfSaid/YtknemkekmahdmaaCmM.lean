/-
  CMAC over numbers: a block doubled, blocks chained, the MAC.
-/
import Derived.Test.YtknemkekmahdmaaAesL
namespace Go.Proofs.Ytknemkekmahdmaa.aesC
open Go.Proofs.Ytknemkekmahdmaa.genC Go.Proofs.Ytknemkekmahdmaa.aesM
set_option linter.unusedVariables false
/-- a byte of a block that goes to the left -/
def low (b : List Nat) (i : Nat) : Nat := b.getD i 0 * 2 % 256 + b.getD (i + 1) 0 / 128
def lowL (b : List Nat) : List Nat := (List.range 16).map (low b)
/-- its last byte -/
def topB (b : List Nat) : Nat := b.getD 15 0 * 2 % 256 ^^^ b.getD 0 0 / 128 * 135
/-- a block doubled -/
def dL (b : List Nat) : List Nat := (lowL b).set 15 (topB b)
theorem bit7 {x : Nat} (h : x < 256) : x / 128 = 0 ∨ x / 128 = 1 := by omega
theorem low_lt {b : List Nat} (h : BY b) (i : Nat) : low b i < 256 := by
  have := h.at (i + 1)
  unfold low; omega
theorem lowL_len (b : List Nat) : (lowL b).length = 16 := by simp [lowL]
theorem lowL_by {b : List Nat} (h : BY b) : BY (lowL b) := BY.map fun i _ => low_lt h i
theorem topB_lt {b : List Nat} (h : BY b) : topB b < 256 := by
  have := h.at 0
  exact xor_lt (Nat.mod_lt _ (by decide)) (by omega)
theorem dL_len (b : List Nat) : (dL b).length = 16 := by unfold dL; rw [List.length_set, lowL_len]
theorem BY.set {xs : List Nat} (h : BY xs) (j : Nat) {x : Nat} (hx : x < 256) : BY (xs.set j x) := by
  intro y hy
  rcases List.mem_or_eq_of_mem_set hy with h1 | rfl
  · exact h y h1
  · exact hx
theorem dL_by {b : List Nat} (h : BY b) : BY (dL b) := (lowL_by h).set 15 (topB_lt h)
theorem getD_out {a : List Nat} {i : Nat} (h : a.length ≤ i) : a.getD i 0 = 0 := by
  rw [List.getD_eq_getElem?_getD, List.getElem?_eq_none h]; rfl
theorem low_last {b : List Nat} (h : b.length = 16) : low b 15 = b.getD 15 0 * 2 % 256 := by
  unfold low
  rw [getD_out (i := 15 + 1) (by omega)]
  simp
theorem dL_at {b : List Nat} {i : Nat} (h : i < 15) : (dL b).getD i 0 = low b i := by
  unfold dL
  rw [List.getD_eq_getElem?_getD, List.getElem?_set_ne (by omega), ← List.getD_eq_getElem?_getD]
  exact getD_map (by omega)
theorem dL_top (b : List Nat) : (dL b).getD 15 0 = topB b := by
  unfold dL
  rw [List.getD_eq_getElem?_getD, List.getElem?_set_self (by rw [lowL_len]; decide)]
  rfl
theorem top_eq {x y u v : Nat} (hu : u = 0 ∨ u = 1) (hv : v = 0 ∨ v = 1) (h : x * 2 % 256 ^^^ u * 135 = y * 2 % 256 ^^^ v * 135) : u = v ∧ x * 2 % 256 = y * 2 % 256 := by
  have par : ∀ z w : Nat, (z * 2 % 256 ^^^ w * 135) % 2 = w % 2 := by
    intro z w
    have h1 := Nat.xor_mod_two_pow (a := z * 2 % 256) (b := w * 135) (n := 1)
    rw [show (2 : Nat) ^ 1 = 2 from rfl] at h1
    rw [h1, show z * 2 % 256 % 2 = 0 by omega, Nat.zero_xor]; omega
  have e : u = v := by
    have h1 := par x u
    have h2 := par y v
    rw [h] at h1
    omega
  subst e
  refine ⟨rfl, ?_⟩
  have h2 : (x * 2 % 256 ^^^ u * 135) ^^^ u * 135 = (y * 2 % 256 ^^^ u * 135) ^^^ u * 135 := by rw [h]
  rwa [Nat.xor_assoc, Nat.xor_assoc, Nat.xor_self, Nat.xor_zero, Nat.xor_zero] at h2
theorem getD_ext {a b : List Nat} (h : a.length = b.length) (he : ∀ i, i < a.length → a.getD i 0 = b.getD i 0) : a = b := by
  apply List.ext_getElem? 
  intro i
  rcases Nat.lt_or_ge i a.length with h1 | h1
  · rw [getD_eq h1, getD_eq (by omega), he i h1]
  · rw [List.getElem?_eq_none h1, List.getElem?_eq_none (by omega)]
/-- no two blocks are doubled to one -/
theorem dL_inj {a b : List Nat} (ya : BY a) (yb : BY b) (la : a.length = 16) (lb : b.length = 16) (h : dL a = dL b) : a = b := by
  have ht : topB a = topB b := by rw [← dL_top, h, dL_top]
  obtain ⟨e0, e15⟩ := top_eq (bit7 (ya.at 0)) (bit7 (yb.at 0)) ht
  have hi : ∀ i, i < 15 → low a i = low b i := fun i h1 => by rw [← dL_at h1, h, dL_at h1]
  have lo : ∀ i, i < 15 → a.getD i 0 % 128 = b.getD i 0 % 128 ∧ a.getD (i + 1) 0 / 128 = b.getD (i + 1) 0 / 128 := by
    intro i h1
    have := hi i h1
    unfold low at this
    have h2 := ya.at (i + 1)
    have h3 := yb.at (i + 1)
    omega
  refine getD_ext (by omega) fun i h1 => ?_
  have hm : a.getD i 0 % 128 = b.getD i 0 % 128 := by
    rcases Nat.lt_or_ge i 15 with h2 | h2
    · exact (lo i h2).1
    · obtain rfl : i = 15 := by omega
      omega
  have hd : a.getD i 0 / 128 = b.getD i 0 / 128 := by
    rcases Nat.eq_zero_or_pos i with rfl | h2
    · exact e0
    · have := (lo (i - 1) (by omega)).2
      rwa [show i - 1 + 1 = i by omega] at this
  omega
/-- block n of some bytes, 0s behind them -/
def blkL (bs : List Nat) (n : Nat) : List Nat := (List.range 16).map fun i => bs.getD (16 * n + i) 0
theorem blkL_len (bs : List Nat) (n : Nat) : (blkL bs n).length = 16 := by simp [blkL]
theorem blkL_by {bs : List Nat} (h : BY bs) (n : Nat) : BY (blkL bs n) := BY.map fun i _ => h.at _
theorem blkL_at {bs : List Nat} {n i : Nat} (h : i < 16) : (blkL bs n).getD i 0 = bs.getD (16 * n + i) 0 := getD_map h
theorem blkL_eq {a b : List Nat} {n : Nat} (h : ∀ i, i < 16 → a.getD (16 * n + i) 0 = b.getD (16 * n + i) 0) : blkL a n = blkL b n := by
  unfold blkL
  exact List.map_congr_left fun i hi => h i (List.mem_range.1 hi)
theorem getD_left {a b : List Nat} {i : Nat} (h : i < a.length) : (a ++ b).getD i 0 = a.getD i 0 := by
  rw [List.getD_eq_getElem?_getD, List.getElem?_append_left h, ← List.getD_eq_getElem?_getD]
theorem getD_right {a b : List Nat} {i : Nat} (h : a.length ≤ i) : (a ++ b).getD i 0 = b.getD (i - a.length) 0 := by
  rw [List.getD_eq_getElem?_getD, List.getElem?_append_right h, ← List.getD_eq_getElem?_getD]
theorem zs_at (n i : Nat) : (zs n).getD i 0 = 0 := by
  rw [List.getD_eq_getElem?_getD]
  unfold zs
  rw [List.getElem?_replicate]
  split <;> rfl
/-- 0s behind tell nothing -/
theorem blkL_zs (a : List Nat) (j n : Nat) : blkL (a ++ zs j) n = blkL a n := by
  refine blkL_eq fun i hi => ?_
  rcases Nat.lt_or_ge (16 * n + i) a.length with h | h
  · exact getD_left h
  · rw [getD_right h, zs_at, getD_out h]
theorem blkL_none {a : List Nat} {n : Nat} (h : a.length ≤ 16 * n) : blkL a n = zs 16 := by
  refine getD_ext (by rw [blkL_len, zs_len]) fun i hi => ?_
  rw [blkL_len] at hi
  rw [blkL_at hi, zs_at, getD_out (by omega)]
/-- the first n blocks, chained -/
def cbc (k bs : List Nat) : Nat → List Nat
  | 0 => zs 16
  | n + 1 => encL k (xorL (cbc k bs n) (blkL bs n))
theorem cbc_len (k bs : List Nat) : ∀ n, (cbc k bs n).length = 16
  | 0 => zs_len 16
  | n + 1 => encL_len _ _
theorem cbc_by {k : List Nat} (hk : BY k) (hl : k.length = 16) (bs : List Nat) : ∀ n, BY (cbc k bs n)
  | 0 => zs_by 16
  | n + 1 => encL_by hk hl _
theorem cbc_eq (k : List Nat) {a b : List Nat} : ∀ n, (∀ i, i < 16 * n → a.getD i 0 = b.getD i 0) → cbc k a n = cbc k b n
  | 0, _ => rfl
  | n + 1, h => by
    rw [cbc, cbc_eq k n fun i hi => h i (by omega), blkL_eq fun i hi => h (16 * n + i) (by omega)]; rfl
theorem cbc_app (k a b : List Nat) {n : Nat} (h : 16 * n ≤ a.length) : cbc k (a ++ b) n = cbc k a n := cbc_eq k n fun i hi => getD_left (by omega)
/-- a key's two blocks -/
def oneL (k : List Nat) : List Nat := dL (encL k (zs 16))
def twoL (k : List Nat) : List Nat := dL (oneL k)
theorem oneL_len (k : List Nat) : (oneL k).length = 16 := dL_len _
theorem twoL_len (k : List Nat) : (twoL k).length = 16 := dL_len _
theorem oneL_by {k : List Nat} (hk : BY k) (hl : k.length = 16) : BY (oneL k) := dL_by (encL_by hk hl _)
theorem twoL_by {k : List Nat} (hk : BY k) (hl : k.length = 16) : BY (twoL k) := dL_by (oneL_by hk hl)
/-- how many blocks stand ahead of the last one -/
def fullN (bs : List Nat) : Nat := (bs.length - 1) / 16
/-- the last block, turned -/
def lastL (k bs : List Nat) : List Nat := if bs.length = 16 * fullN bs + 16 then xorL (blkL bs (fullN bs)) (oneL k) else xorL (blkL (bs ++ [128]) (fullN bs)) (twoL k)
/-- the MAC -/
def macL (k bs : List Nat) : List Nat := encL k (xorL (cbc k bs (fullN bs)) (lastL k bs))
theorem macL_len (k bs : List Nat) : (macL k bs).length = 16 := encL_len _ _
theorem macL_by {k : List Nat} (hk : BY k) (hl : k.length = 16) (bs : List Nat) : BY (macL k bs) := encL_by hk hl _
theorem fullN_of {bs : List Nat} {n q : Nat} (h : bs.length = 16 * n + q) (hq : q ≤ 16) (h0 : q = 0 → n = 0) : fullN bs = n := by unfold fullN; omega
theorem macL_whole {k bs : List Nat} {n : Nat} (h : bs.length = 16 * n + 16) : macL k bs = encL k (xorL (cbc k bs n) (xorL (blkL bs n) (oneL k))) := by
  have e : fullN bs = n := fullN_of h (by omega) (by omega)
  unfold macL lastL
  rw [e, if_pos h]
theorem macL_part {k bs : List Nat} {n q : Nat} (h : bs.length = 16 * n + q) (hq : q < 16) (h0 : q = 0 → n = 0) : macL k bs = encL k (xorL (cbc k bs n) (xorL (blkL (bs ++ [128]) n) (twoL k))) := by
  have e : fullN bs = n := fullN_of h (by omega) h0
  unfold macL lastL
  rw [e, if_neg (by omega)]
theorem xorL_at {a b : List Nat} {i : Nat} (h : i < 16) : (xorL a b).getD i 0 = a.getD i 0 ^^^ b.getD i 0 := getD_map h
theorem xorL_assoc (a b c : List Nat) : xorL (xorL a b) c = xorL a (xorL b c) := by
  refine getD_ext (by rw [xorL_len, xorL_len]) fun i hi => ?_
  rw [xorL_len] at hi
  rw [xorL_at hi, xorL_at hi, xorL_at hi, xorL_at hi, Nat.xor_assoc]
theorem xorL_twice (a b c : List Nat) : xorL (xorL a (xorL b c)) b = xorL a c := by
  refine getD_ext (by rw [xorL_len, xorL_len]) fun i hi => ?_
  rw [xorL_len] at hi
  rw [xorL_at hi, xorL_at hi, xorL_at hi, xorL_at hi, Nat.xor_assoc, Nat.xor_comm (b.getD i 0), Nat.xor_assoc, Nat.xor_self, Nat.xor_zero]
/-- bytes filled, the last block turned by the key's two -/
theorem macL_filled {k bs cs : List Nat} {n q : Nat} (h : bs.length = 16 * n + q) (hq : q < 16) (h0 : q = 0 → n = 0) (hc : cs.length = 16 * n + 16)
    (ha : ∀ i, i < 16 * n → cs.getD i 0 = bs.getD i 0) (hb : ∀ i, i < 16 → cs.getD (16 * n + i) 0 = (bs ++ [128]).getD (16 * n + i) 0 ^^^ ((oneL k).getD i 0 ^^^ (twoL k).getD i 0)) : macL k cs = macL k bs := by
  rw [macL_whole hc, macL_part h hq h0, cbc_eq k n ha]
  have e : blkL cs n = xorL (blkL (bs ++ [128]) n) (xorL (oneL k) (twoL k)) := by
    refine getD_ext (by rw [blkL_len, xorL_len]) fun i hi => ?_
    rw [blkL_len] at hi
    rw [blkL_at hi, xorL_at hi, blkL_at hi, xorL_at hi, hb i hi]
  rw [e, xorL_twice]
/-- numbers as they lie in memory -/
def nats (ys : List Int) : List Nat := ys.map Int.toNat
theorem nats_len (ys : List Int) : (nats ys).length = ys.length := by simp [nats]
theorem nats_app (xs ys : List Int) : nats (xs ++ ys) = nats xs ++ nats ys := by simp [nats]
theorem nats_by {ys : List Int} (h : ∀ x ∈ ys, Byte x) : BY (nats ys) := by
  intro x hx
  obtain ⟨y, hy, rfl⟩ := List.mem_map.1 hx
  obtain ⟨h1, h2⟩ := h y hy
  omega
theorem nats_vec {ys : List Int} (h : ∀ x ∈ ys, Byte x) : ys.map (Value.int .u8) = (nats ys).map fun n : Nat => Value.int .u8 (n : Int) := by
  unfold nats
  rw [List.map_map]
  refine List.map_congr_left fun y hy => ?_
  show Value.int .u8 y = Value.int .u8 (y.toNat : Int)
  rw [Int.toNat_of_nonneg (h y hy).1]
theorem nats_at {ys : List Int} (h : ∀ x ∈ ys, Byte x) (i : Nat) : ys.getD i 0 = (((nats ys).getD i 0 : Nat) : Int) := by
  unfold nats
  rw [List.getD_eq_getElem?_getD, List.getD_eq_getElem?_getD, List.getElem?_map]
  rcases Nat.lt_or_ge i ys.length with h1 | h1
  · rw [List.getElem?_eq_getElem h1]
    show ys[i] = (ys[i].toNat : Int)
    rw [Int.toNat_of_nonneg (h _ (List.getElem_mem _)).1]
  · rw [List.getElem?_eq_none h1]; rfl
theorem ints_nats (ns : List Nat) : nats (ns.map fun n : Nat => (n : Int)) = ns := by
  unfold nats
  rw [List.map_map]
  exact (List.map_congr_left fun n _ => rfl).trans (List.map_id _)
end Go.Proofs.Ytknemkekmahdmaa.aesC
