/-
  SHA-1 piece by piece: what a Sum holds of some bytes.
-/
import Derived.Test.YtbpolandhjcggaaShaC
import Derived.Test.YtbpolandhjcggaaBut
namespace Go.Proofs.Ytbpolandhjcggaa.shaN
open Go.ChangeShapes Go.WideShapes Go.ChangeAt Go.RowKit
open Go.Proofs.Ytbpolandhjcggaa.memC Go.Proofs.Ytbpolandhjcggaa.genC Go.Proofs.Ytbpolandhjcggaa.shaM Go.Proofs.Ytbpolandhjcggaa.shaC Go.Proofs.Ytbpolandhjcggaa.butC
set_option linter.unusedVariables false
def sub (i x : Int) : Int := (x - i) % 4294967296
theorem w32_sub (i x : Int) : W32 (sub i x) := by unfold W32 sub; omega
/-- by how much the five grew -/
def gOf (h : List Int) : List Int := List.zipWith sub initH h
theorem ad_sub {i x : Int} (h : W32 x) : ad i (sub i x) = x := by unfold ad sub W32 at *; omega
theorem sub_ad (i x s : Int) : sub i (ad x s) = ad (sub i x) s := by unfold ad sub; omega
theorem gOf_back {h : List Int} (hl : h.length = 5) (hw : ∀ x ∈ h, W32 x) : List.zipWith ad initH (gOf h) = h := by
  obtain ⟨a, b, c, d, e, rfl⟩ := list5 hl
  simp only [List.mem_cons, List.not_mem_nil, or_false, forall_eq_or_imp, forall_eq] at hw
  obtain ⟨h0, h1, h2, h3, h4⟩ := hw
  simp only [gOf, initH, List.zipWith_cons_cons, List.zipWith_nil_right, ad_sub h0, ad_sub h1, ad_sub h2, ad_sub h3, ad_sub h4]
theorem gOf_step {h s : List Int} (hl : h.length = 5) (hs : s.length = 5) : gOf (List.zipWith ad h s) = List.zipWith ad (gOf h) s := by
  obtain ⟨a, b, c, d, e, rfl⟩ := list5 hl
  obtain ⟨a', b', c', d', e', rfl⟩ := list5 hs
  simp only [gOf, initH, List.zipWith_cons_cons, List.zipWith_nil_right, sub_ad]
theorem gOf_init : gOf initH = [0, 0, 0, 0, 0] := by decide
theorem gOf_len {h : List Int} (hl : h.length = 5) : (gOf h).length = 5 := by simp [gOf, initH, hl]
theorem gOf_w32 (h : List Int) : ∀ x ∈ gOf h, W32 x := by
  intro x hx
  unfold gOf at hx
  rw [List.zipWith_eq_zipWith_take_min] at hx
  obtain ⟨i, hi, rfl⟩ := List.mem_iff_getElem.1 hx
  simp only [List.getElem_zipWith]
  exact w32_sub _ _
/-- the five numbers behind the whole blocks of some bytes -/
def hashH (xs : List Int) : List Int := hashN xs (xs.length / 64)
/-- the bytes behind the whole blocks -/
def tailR (xs : List Int) : List Int := xs.drop (64 * (xs.length / 64))
theorem hashH_ok (xs : List Int) : (hashH xs).length = 5 ∧ ∀ x ∈ hashH xs, W32 x := hash_ok _ _
theorem tail_len (xs : List Int) : (tailR xs).length = xs.length % 64 := by unfold tailR; rw [List.length_drop]; omega
theorem hashN_app (xs ys : List Int) : ∀ k, 64 * k ≤ xs.length → hashN (xs ++ ys) k = hashN xs k
  | 0, _ => rfl
  | k + 1, h => by
    have e : ((xs ++ ys).drop (64 * k)).take 64 = (xs.drop (64 * k)).take 64 := by
      rw [List.drop_append_of_le_length (by omega), List.take_append_of_le_length (by rw [List.length_drop]; omega)]
    rw [hashN, hashN, hashN_app xs ys k (by omega), e]
theorem hash_stay {xs ys : List Int} (h : xs.length % 64 + ys.length < 64) : hashH (xs ++ ys) = hashH xs ∧ tailR (xs ++ ys) = tailR xs ++ ys := by
  have e : (xs ++ ys).length / 64 = xs.length / 64 := by rw [List.length_append]; omega
  unfold hashH tailR
  rw [e]
  exact ⟨hashN_app _ _ _ (by omega), List.drop_append_of_le_length (by omega)⟩
theorem hash_fill {xs ys : List Int} (h : xs.length % 64 + ys.length = 64) : hashH (xs ++ ys) = blk (hashH xs) (tailR xs ++ ys) ∧ tailR (xs ++ ys) = [] := by
  have e : (xs ++ ys).length / 64 = xs.length / 64 + 1 := by rw [List.length_append]; omega
  unfold hashH tailR
  rw [e]
  refine ⟨?_, List.drop_eq_nil_of_le (by rw [List.length_append]; omega)⟩
  rw [hashN, hashN_app _ _ _ (by omega), List.drop_append_of_le_length (by omega), List.take_of_length_le (by rw [List.length_append, List.length_drop]; omega)]
def zs (n : Nat) : List Int := List.replicate n 0
theorem zs_add (a b : Nat) : zs a ++ zs b = zs (a + b) := List.replicate_append_replicate
/-- a Sum's block: the bytes behind the whole blocks, and 0s -/
def restL (xs : List Int) : List Int := tailR xs ++ zs (64 - xs.length % 64)
theorem rest_len (xs : List Int) : (restL xs).length = 64 := by unfold restL zs; rw [List.length_append, tail_len, List.length_replicate]; omega
theorem tail_byte {xs : List Int} (h : ∀ x ∈ xs, Byte x) : ∀ x ∈ tailR xs, Byte x := fun x hx => h x (List.mem_of_mem_drop hx)
theorem zs_byte (n : Nat) : ∀ x ∈ zs n, Byte x := fun x hx => by rw [List.eq_of_mem_replicate hx]; unfold Byte; omega
theorem app_byte {xs ys : List Int} (h : ∀ x ∈ xs, Byte x) (h' : ∀ x ∈ ys, Byte x) : ∀ x ∈ xs ++ ys, Byte x := fun x hx => (List.mem_append.1 hx).elim (h x) (h' x)
theorem rest_byte {xs : List Int} (h : ∀ x ∈ xs, Byte x) : ∀ x ∈ restL xs, Byte x := app_byte (tail_byte h) (zs_byte _)
theorem rest_nil {xs : List Int} (h : xs.length % 64 = 0) : restL xs = zs 64 := by
  have : tailR xs = [] := List.eq_nil_of_length_eq_zero (by rw [tail_len]; exact h)
  unfold restL; rw [this, h]; rfl
/-- the bytes, filled up but for their number -/
def fullL (xs : List Int) : List Int := xs ++ 128 :: zs (zerosN xs.length)
theorem full_len (xs : List Int) : (fullL xs).length % 64 = 56 := by
  unfold fullL zs
  rw [List.length_append, List.length_cons, List.length_replicate]
  have := (zeros_spec xs.length).1
  omega
theorem full_near {xs : List Int} (h : (xs.length + 1) % 64 ≤ 56) : hashH (fullL xs) = hashH (xs ++ [128]) ∧ tailR (fullL xs) ++ zs 8 = restL (xs ++ [128]) := by
  have e : fullL xs = (xs ++ [128]) ++ zs (zerosN xs.length) := by unfold fullL; simp
  have hz : (xs ++ [128]).length % 64 + (zs (zerosN xs.length)).length = 56 := by
    rw [List.length_append]; unfold zs zerosN; simp; omega
  obtain ⟨h1, h2⟩ := hash_stay (xs := xs ++ [128]) (ys := zs (zerosN xs.length)) (by omega)
  rw [e, h1, h2]
  refine ⟨rfl, ?_⟩
  unfold restL
  rw [List.append_assoc]
  congr 1
  have h3 : (zs (zerosN xs.length)).length = zerosN xs.length := by simp [zs]
  have h4 : 64 - (xs ++ [128]).length % 64 = zerosN xs.length + 8 := by omega
  rw [h4, zs_add]
theorem full_far {xs : List Int} (h : 56 < (xs.length + 1) % 64) : hashH (fullL xs) = blk (hashH (xs ++ [128])) (restL (xs ++ [128])) ∧ tailR (fullL xs) ++ zs 8 = zs 64 := by
  have hl : (xs ++ [128]).length % 64 = (xs.length + 1) % 64 := by rw [List.length_append]; rfl
  obtain ⟨q, hq⟩ : ∃ q, q = 64 - (xs ++ [128]).length % 64 := ⟨_, rfl⟩
  have hz : zerosN xs.length = q + 56 := by unfold zerosN; omega
  have e : fullL xs = ((xs ++ [128]) ++ zs q) ++ zs 56 := by
    unfold fullL; rw [hz, ← zs_add]; simp
  obtain ⟨h1, h2⟩ := hash_fill (xs := xs ++ [128]) (ys := zs q) (by simp only [zs, List.length_replicate]; omega)
  have h5 : ((xs ++ [128]) ++ zs q).length % 64 = 0 := by rw [List.length_append]; simp only [zs, List.length_replicate]; omega
  obtain ⟨h3, h4⟩ := hash_stay (xs := (xs ++ [128]) ++ zs q) (ys := zs 56) (by rw [h5]; decide)
  rw [e, h3, h4, h1, h2]
  refine ⟨by unfold restL; rw [← hq], ?_⟩
  rw [List.nil_append, zs_add]
theorem pad_hash (xs : List Int) : hashH (padL xs) = blk (hashH (fullL xs)) (tailR (fullL xs) ++ lenB ((xs.length : Int) * 8)) :=
  (hash_fill (xs := fullL xs) (ys := lenB ((xs.length : Int) * 8)) (by rw [full_len]; rfl)).1
theorem sha_hash (xs : List Int) : shaL xs = (List.range 20).map (outB (hashH (padL xs))) := rfl
end Go.Proofs.Ytbpolandhjcggaa.shaN
