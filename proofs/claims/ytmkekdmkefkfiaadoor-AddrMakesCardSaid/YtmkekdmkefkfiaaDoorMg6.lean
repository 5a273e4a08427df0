/-
  3 texts of a proof, joined.
-/
import Derived.Test.YtmkekdmkefkfiaaDoorMg5
import Derived.Great.BuildSlice

/-
  The document's addresses: the number of a text, and the group of one.
-/
namespace Go.Proofs.YtmkekdmkefkfiaaDoor.adC
open Go.ChangeShapes Go.WideShapes Go.ChangeAt Go.RowKit
open Go.Proofs.YtmkekdmkefkfiaaDoor.memC Go.Proofs.YtmkekdmkefkfiaaDoor.genC Go.Proofs.YtmkekdmkefkfiaaDoor.butC Go.Proofs.YtmkekdmkefkfiaaDoor.freeC
open Go.Proofs.YtmkekdmkefkfiaaDoor.hexM (strL strL_len strL_of of_strL strL_get nib nib_bd)
set_option linter.unusedVariables false
theorem str_inj {xs ys : List Int} (hx : ∀ x ∈ xs, Byte x) (hy : ∀ x ∈ ys, Byte x) : (strOfNums xs).toList = (strOfNums ys).toList ↔ xs = ys := by
  constructor
  · intro h
    rw [ByteArray.toList_eq, ByteArray.toList_eq] at h
    have h2 : strOfNums xs = strOfNums ys := ByteArray.ext (Array.toList_inj.1 h)
    rw [← strL_of xs hx, ← strL_of ys hy, h2]
  · rintro rfl; rfl
/-- the number from n on whose text it is; -1: there is none -/
def bofF (xs : List Int) : Nat → Nat → Int
  | 0, _ => -1
  | f + 1, n => if tenL n = xs then n else bofF xs f (n + 1)
def bofL (xs : List Int) : Int := bofF xs 256 0
theorem bofF_le (xs : List Int) : ∀ f n, f + n ≤ 256 → -1 ≤ bofF xs f n ∧ bofF xs f n ≤ 255
  | 0, n, h => by unfold bofF; omega
  | f + 1, n, h => by
    unfold bofF
    split
    · omega
    · exact bofF_le xs f (n + 1) (by omega)
theorem bofL_le (xs : List Int) : -1 ≤ bofL xs ∧ bofL xs ≤ 255 := bofF_le xs 256 0 (by omega)
set_option maxRecDepth 100000 in
set_option maxHeartbeats 1000000 in
theorem byteOf_any (xs : List Int) (w : World) (hy : ∀ x ∈ xs, Byte x) : Calls Tryd.prog 30 #[.string (strOfNums xs)] w (Ret w (.int .i64 (bofL xs))) := by
  have TN := Lib.hid (fun (n : Nat) (hn : n < 256) w' => ten_any n (by omega) w')
  have EQ := Lib.hid (fun (n : Nat) => str_inj (tenL_byte n) hy)
  obtain ⟨T, hT⟩ : ∃ T, T = bofL xs := ⟨_, rfl⟩
  have HT := Lib.hid (show bofF xs 256 0 = T by rw [hT]; rfl)
  rw [← hT]
  generalize hS : strOfNums xs = S0 at *
  clear hT hy hS
  go_enter Tryd.func30, Tryd.ntmps30
  go_wp2_with fail
  go_loopw [3] (fun v wr => ∃ n : Nat, n ≤ 256 ∧ v = .int .i64 n ∧ bofF xs (256 - n) n = T ∧ Below w.heap.size w wr) (fun v _ => 256 - (intOf v).toNat)
  case atStart => exact ⟨0, by omega, rfl, HT.out, Below.refl _ _⟩
  case round =>
    obtain ⟨n, hn, rfl, hf, Bw⟩ := hrel
    have HF := Lib.hid hf
    have HB := Lib.hid Bw
    clear hf Bw
    by_cases hlt : n < 256
    · have hz : (n : Int) < 256 := by omega
      have TI := Lib.hid (TN.out n hlt)
      have EI := Lib.hid (EQ.out n)
      have HS := Lib.hid (show (if tenL n = xs then (n : Int) else bofF xs (256 - (n + 1)) (n + 1)) = T by
        have h := HF.out
        rw [show 256 - n = (256 - (n + 1)) + 1 by omega, bofF] at h; exact h)
      generalize strOfNums (tenL n) = S1 at *
      by_cases he : tenL n = xs
      · have h1 : (S1.toList == S0.toList) = true := by rw [beq_iff_eq]; exact EI.out.2 he
        have HE := Lib.hid (show (n : Int) = T by have h := HS.out; rwa [if_pos he] at h)
        clear he
        go_wp2_with (first
          | (go_at_call 35; (with_reducible refine (TI.out _).mono ?_); rintro e w1 ⟨rfl, B1⟩
             have B1 := Lib.hid B1))
        go_ret
        exact ⟨ret_int HE.out, HB.out.trans (B1.out.mono HB.out.size)⟩
      · have h1 : (S1.toList == S0.toList) = false := by
          rw [beq_eq_false_iff_ne]; exact fun h => he (EI.out.1 h)
        have HE := Lib.hid (show bofF xs (256 - (n + 1)) (n + 1) = T by have h := HS.out; rwa [if_neg he] at h)
        clear he
        go_wp2_with (first
          | (go_at_call 35; (with_reducible refine (TI.out _).mono ?_); rintro e w1 ⟨rfl, B1⟩
             have B1 := Lib.hid B1))
        go_roundw
        case rel => exact ⟨n + 1, by omega, by go_num, HE.out, HB.out.trans (B1.out.mono HB.out.size)⟩
        case measure => simp [intOf]; omega
    · have e : n = 256 := by omega
      subst e
      have HE := Lib.hid (show (-1 : Int) = T by have h := HF.out; exact h)
      go_wp2_with fail
      go_ret
      exact ⟨ret_int HE.out, HB.out⟩
/-- the group of a text -/
def gofF : List Int → Nat → Int
  | [], n => n
  | x :: r, n => if nib x ≤ 15 then gofF r (n * 16 + (nib x).toNat) else -1
def gofL (xs : List Int) : Int := if xs.length < 1 ∨ 4 < xs.length then -1 else gofF xs 0
theorem gofF_le : ∀ (xs : List Int) (n k : Nat), n < 16 ^ k → -1 ≤ gofF xs n ∧ gofF xs n < 16 ^ (k + xs.length)
  | [], n, k, h => by
    unfold gofF
    have : ((16 ^ k : Nat) : Int) = (16 : Int) ^ k := by push_cast; rfl
    simp only [List.length_nil, Nat.add_zero]
    omega
  | x :: r, n, k, h => by
    unfold gofF
    have hb := nib_bd x
    split
    · have h1 : n * 16 + (nib x).toNat < 16 ^ (k + 1) := by rw [Nat.pow_succ]; omega
      have h2 := gofF_le r _ _ h1
      rwa [show k + 1 + r.length = k + (x :: r).length by simp; omega] at h2
    · have : (0 : Int) < (16 : Int) ^ (k + (x :: r).length) := Int.pow_pos (by decide)
      omega
theorem gofL_le (xs : List Int) : -1 ≤ gofL xs ∧ gofL xs ≤ 65535 := by
  unfold gofL
  split
  · omega
  · rename_i h
    have h1 := gofF_le xs 0 0 (by decide)
    have h2 : (16 : Int) ^ (0 + xs.length) ≤ 65536 := by
      rw [Nat.zero_add]
      have h3 : xs.length = 1 ∨ xs.length = 2 ∨ xs.length = 3 ∨ xs.length = 4 := by omega
      rcases h3 with h | h | h | h <;> rw [h] <;> decide
    omega
end Go.Proofs.YtmkekdmkefkfiaaDoor.adC

/-
  The document's addresses: what groupOf does.
-/
namespace Go.Proofs.YtmkekdmkefkfiaaDoor.adC
open Go.ChangeShapes Go.WideShapes Go.ChangeAt Go.RowKit
open Go.Proofs.YtmkekdmkefkfiaaDoor.memC Go.Proofs.YtmkekdmkefkfiaaDoor.genC Go.Proofs.YtmkekdmkefkfiaaDoor.butC Go.Proofs.YtmkekdmkefkfiaaDoor.freeC
open Go.Proofs.YtmkekdmkefkfiaaDoor.hexM (strL strL_len strL_of of_strL strL_get nib nib_bd)
set_option linter.unusedVariables false
theorem pow_small {i n : Nat} (h : n < 16 ^ i) (hi : i ≤ 3) : n ≤ 4095 := by
  have h3 : i = 0 ∨ i = 1 ∨ i = 2 ∨ i = 3 := by omega
  rcases h3 with rfl | rfl | rfl | rfl <;> omega
set_option maxRecDepth 100000 in
set_option maxHeartbeats 1000000 in
theorem groupOf_any (xs : List Int) (w : World) (hy : ∀ x ∈ xs, Byte x) (hn : xs.length ≤ 10000) : Calls Tryd.prog 52 #[.string (strOfNums xs)] w (Ret w (.int .i64 (gofL xs))) := by
  obtain ⟨L, hL⟩ : ∃ L, L = xs.length := ⟨_, rfl⟩
  have hsz : (strOfNums xs).size = L := by rw [strOfNums_size, hL]
  have hL1 : L ≤ 10000 := by omega
  by_cases hbad : xs.length < 1 ∨ 4 < xs.length
  · have HT : gofL xs = -1 := by unfold gofL; rw [if_pos hbad]
    rw [HT]
    rw [← hL] at hbad
    generalize strOfNums xs = S0 at *
    clear hL hy HT
    rcases hbad with h | h
    · have e : L = 0 := by omega
      subst e
      go_enter Tryd.func52, Tryd.ntmps52
      go_wp2_with fail
      go_ret
      exact ⟨rfl, Below.refl _ _⟩
    · have h1 : ¬ (L : Int) < 1 := by omega
      have h2 : decide ((L : Int) < 1) = false := decide_eq_false h1
      have h3 : (4 : Int) < (L : Int) := by omega
      have h4 : decide ((4 : Int) < (L : Int)) = true := decide_eq_true h3
      go_enter Tryd.func52, Tryd.ntmps52
      go_wp2_with fail
      go_ret
      exact ⟨rfl, Below.refl _ _⟩
  · have IDX := Lib.hid (fun (i : Nat) (hi : i < L) (w' : World) => str_at (xs := xs) hy (i := i) (by omega) (z := (i : Int)) rfl w')
    have BY := Lib.hid (fun (i : Nat) (hi : i < L) => getD_byte hy (k := i) (by omega))
    have DR := Lib.hid (fun (i : Nat) (hi : i < L) => (show xs.drop i = xs.getD i 0 :: xs.drop (i + 1) by
      rw [List.getD_eq_getElem?_getD, List.getElem?_eq_getElem (by omega)]
      exact List.drop_eq_getElem_cons (by omega)))
    have DE := Lib.hid (show ∀ i, L ≤ i → xs.drop i = [] from fun i hi => List.drop_eq_nil_of_le (by omega))
    obtain ⟨T, hT⟩ : ∃ T, T = gofL xs := ⟨_, rfl⟩
    have HT := Lib.hid (show gofF (xs.drop 0) 0 = T by rw [hT]; unfold gofL; rw [if_neg hbad]; rfl)
    rw [← hT]
    rw [← hL] at hbad
    have hL4 : L ≤ 4 := by omega
    have b1 : ¬ (L : Int) < 1 := by omega
    have b2 : decide ((L : Int) < 1) = false := decide_eq_false b1
    have b3 : ¬ (4 : Int) < (L : Int) := by omega
    have b4 : decide ((4 : Int) < (L : Int)) = false := decide_eq_false b3
    generalize strOfNums xs = S0 at *
    clear hT hL hbad hy
    go_enter Tryd.func52, Tryd.ntmps52
    go_wp2_with fail
    clear b1 b2 b3 b4
    go_loopw [3, 4] (fun nv iv wr => ∃ (i n : Nat), i ≤ L ∧ iv = .int .i64 i ∧ nv = .int .i64 n ∧ n < 16 ^ i ∧ gofF (xs.drop i) n = T ∧ Below w.heap.size w wr) (fun _ iv _ => L - (intOf iv).toNat)
    case atStart => exact ⟨0, 0, by omega, rfl, rfl, by decide, HT.out, Below.refl _ _⟩
    case round =>
      obtain ⟨i, n, hi, rfl, rfl, hpw, hf, Bw⟩ := hrel
      have HB := Lib.hid Bw
      have HF := Lib.hid hf
      have HP := Lib.hid hpw
      clear Bw hf hpw
      by_cases hlt : i < L
      · have hz : (i : Int) < (L : Int) := by omega
        have hns := pow_small HP.out (by omega)
        have ID := Lib.hid (IDX.out i hlt)
        obtain ⟨x0, x1⟩ := BY.out i hlt
        have HG := Lib.hid (show (if nib (xs.getD i 0) ≤ 15 then gofF (xs.drop (i + 1)) (n * 16 + (nib (xs.getD i 0)).toNat) else -1) = T by
          have h := HF.out
          rw [DR.out i hlt, gofF] at h; exact h)
        generalize xs.getD i 0 = x at *
        obtain ⟨m, hm⟩ : ∃ m, m = n * 16 := ⟨_, rfl⟩
        have hmz : (n : Int) * 16 = (m : Int) := by omega
        have HM := Lib.hid hm
        clear hm
        by_cases hd : 48 ≤ x ∧ x ≤ 57
        · obtain ⟨y, hyy⟩ : ∃ y : Nat, (y : Int) = x - 48 := ⟨(x - 48).toNat, by omega⟩
          have hxy : x - 48 = (y : Int) := hyy.symm
          have y15 : y ≤ 25 := by omega
          have hw : IntKind.u8.wrap (y : Int) = (y : Int) := IntWalk.u8_in _ (by omega)
          have c0 : 48 ≤ x := by omega
          have c0d : decide (48 ≤ x) = true := decide_eq_true c0
          have c1 : x ≤ 57 := by omega
          have c1d : decide (x ≤ 57) = true := decide_eq_true c1
          obtain ⟨r, hr⟩ : ∃ r, r = m + y := ⟨_, rfl⟩
          have hrz : (m : Int) + (y : Int) = (r : Int) := by omega
          have HN := Lib.hid (show nib x = (y : Int) + 0 ∧ nib x ≤ 15 by unfold nib; repeat (first | rw [if_pos (by omega)] | rw [if_neg (by omega)]); omega)
          have HG2 := Lib.hid (show gofF (xs.drop (i + 1)) r = T by
            have h := HG.out
            rw [if_pos HN.out.2] at h
            rw [← h]
            have h1 := HN.out.1
            have h2 := HM.out
            congr 1; omega)
          have HP2 := Lib.hid (show r < 16 ^ (i + 1) by
            have h1 := HN.out
            have h2 := HM.out
            have h3 := HP.out
            rw [Nat.pow_succ]; omega)
          clear hyy hr 
          go_wp2_with (first
            | (refine wpList_runG (by rfl) _ (index_run rfl rfl rfl (ID.out _)) ?_))
          go_roundw
          case rel => exact ⟨i + 1, r, by omega, by go_num, rfl, HP2.out, HG2.out, HB.out⟩
          case measure => simp [intOf]; omega
        by_cases ha : 97 ≤ x ∧ x ≤ 102
        · obtain ⟨y, hyy⟩ : ∃ y : Nat, (y : Int) = x - 97 := ⟨(x - 97).toNat, by omega⟩
          have hxy : x - 97 = (y : Int) := hyy.symm
          have y15 : y ≤ 25 := by omega
          have hw : IntKind.u8.wrap (y : Int) = (y : Int) := IntWalk.u8_in _ (by omega)
          have c0 : 48 ≤ x := by omega
          have c0d : decide (48 ≤ x) = true := decide_eq_true c0
          have c1 : ¬ x ≤ 57 := by omega
          have c1d : decide (x ≤ 57) = false := decide_eq_false c1
          have c2 : 97 ≤ x := by omega
          have c2d : decide (97 ≤ x) = true := decide_eq_true c2
          have c3 : x ≤ 102 := by omega
          have c3d : decide (x ≤ 102) = true := decide_eq_true c3
          obtain ⟨r, hr⟩ : ∃ r, r = m + y := ⟨_, rfl⟩
          have hrz : (m : Int) + (y : Int) = (r : Int) := by omega
          obtain ⟨r2, hr2⟩ : ∃ r2, r2 = r + 10 := ⟨_, rfl⟩
          have hrz2 : (r : Int) + 10 = (r2 : Int) := by omega
          have HN := Lib.hid (show nib x = (y : Int) + 10 ∧ nib x ≤ 15 by unfold nib; repeat (first | rw [if_pos (by omega)] | rw [if_neg (by omega)]); omega)
          have HG2 := Lib.hid (show gofF (xs.drop (i + 1)) r2 = T by
            have h := HG.out
            rw [if_pos HN.out.2] at h
            rw [← h]
            have h1 := HN.out.1
            have h2 := HM.out
            congr 1; omega)
          have HP2 := Lib.hid (show r2 < 16 ^ (i + 1) by
            have h1 := HN.out
            have h2 := HM.out
            have h3 := HP.out
            rw [Nat.pow_succ]; omega)
          clear hyy hr hr2
          go_wp2_with (first
            | (refine wpList_runG (by rfl) _ (index_run rfl rfl rfl (ID.out _)) ?_))
          go_roundw
          case rel => exact ⟨i + 1, r2, by omega, by go_num, rfl, HP2.out, HG2.out, HB.out⟩
          case measure => simp [intOf]; omega
        by_cases hu : 65 ≤ x ∧ x ≤ 70
        · obtain ⟨y, hyy⟩ : ∃ y : Nat, (y : Int) = x - 65 := ⟨(x - 65).toNat, by omega⟩
          have hxy : x - 65 = (y : Int) := hyy.symm
          have y15 : y ≤ 25 := by omega
          have hw : IntKind.u8.wrap (y : Int) = (y : Int) := IntWalk.u8_in _ (by omega)
          have c0 : 48 ≤ x := by omega
          have c0d : decide (48 ≤ x) = true := decide_eq_true c0
          have c1 : ¬ x ≤ 57 := by omega
          have c1d : decide (x ≤ 57) = false := decide_eq_false c1
          have c2 : ¬ 97 ≤ x := by omega
          have c2d : decide (97 ≤ x) = false := decide_eq_false c2
          have c3 : 65 ≤ x := by omega
          have c3d : decide (65 ≤ x) = true := decide_eq_true c3
          have c4 : x ≤ 70 := by omega
          have c4d : decide (x ≤ 70) = true := decide_eq_true c4
          obtain ⟨r, hr⟩ : ∃ r, r = m + y := ⟨_, rfl⟩
          have hrz : (m : Int) + (y : Int) = (r : Int) := by omega
          obtain ⟨r2, hr2⟩ : ∃ r2, r2 = r + 10 := ⟨_, rfl⟩
          have hrz2 : (r : Int) + 10 = (r2 : Int) := by omega
          have HN := Lib.hid (show nib x = (y : Int) + 10 ∧ nib x ≤ 15 by unfold nib; repeat (first | rw [if_pos (by omega)] | rw [if_neg (by omega)]); omega)
          have HG2 := Lib.hid (show gofF (xs.drop (i + 1)) r2 = T by
            have h := HG.out
            rw [if_pos HN.out.2] at h
            rw [← h]
            have h1 := HN.out.1
            have h2 := HM.out
            congr 1; omega)
          have HP2 := Lib.hid (show r2 < 16 ^ (i + 1) by
            have h1 := HN.out
            have h2 := HM.out
            have h3 := HP.out
            rw [Nat.pow_succ]; omega)
          clear hyy hr hr2
          go_wp2_with (first
            | (refine wpList_runG (by rfl) _ (index_run rfl rfl rfl (ID.out _)) ?_))
          go_roundw
          case rel => exact ⟨i + 1, r2, by omega, by go_num, rfl, HP2.out, HG2.out, HB.out⟩
          case measure => simp [intOf]; omega
        have HE := Lib.hid (show (-1 : Int) = T by
          have h := HG.out
          rw [if_neg (by unfold nib; rw [if_neg hd, if_neg ha, if_neg hu]; omega)] at h
          exact h)
        have hd2 : (decide (48 ≤ x) && decide (x ≤ 57)) = false := by rw [← Bool.decide_and]; exact decide_eq_false hd
        have ha2 : (decide (97 ≤ x) && decide (x ≤ 102)) = false := by rw [← Bool.decide_and]; exact decide_eq_false ha
        have hu2 : (decide (65 ≤ x) && decide (x ≤ 70)) = false := by rw [← Bool.decide_and]; exact decide_eq_false hu
        by_cases e1 : 48 ≤ x <;> by_cases e2 : x ≤ 57 <;> by_cases e3 : 97 ≤ x <;> by_cases e4 : x ≤ 102 <;> by_cases e5 : 65 ≤ x <;> by_cases e6 : x ≤ 70
        all_goals try (exfalso; omega)
        all_goals
          clear hd ha hu hd2 ha2 hu2
          go_wp2_with (first
            | (refine wpList_runG (by rfl) _ (index_run rfl rfl rfl (ID.out _)) ?_))
          go_ret
          exact ⟨ret_int HE.out, HB.out⟩
      · have e : i = L := by omega
        subst e
        have HE := Lib.hid (show (n : Int) = T by have h := HF.out; rw [DE.out i (Nat.le_refl _)] at h; exact h)
        go_wp2_with fail
        go_ret
        exact ⟨ret_int HE.out, HB.out⟩
end Go.Proofs.YtmkekdmkefkfiaaDoor.adC

/-
  The document's addresses: what Six does.
-/
namespace Go.Proofs.YtmkekdmkefkfiaaDoor.adC
open Go.ChangeShapes Go.WideShapes Go.ChangeAt Go.RowKit
open Go.Proofs.YtmkekdmkefkfiaaDoor.memC Go.Proofs.YtmkekdmkefkfiaaDoor.genC Go.Proofs.YtmkekdmkefkfiaaDoor.butC Go.Proofs.YtmkekdmkefkfiaaDoor.freeC
set_option linter.unusedVariables false
/-- the bytes of groups, up to the j-th -/
def sixT (gs : List Int) : Nat → List Int
  | 0 => zs 16
  | j + 1 => ((sixT gs j).set (2 * j) (gs.getD j 0 / 256)).set (2 * j + 1) (gs.getD j 0 % 256)
def sixB (gs : List Int) : List Int := sixT gs (min 8 gs.length)
theorem sixT_len (gs : List Int) : ∀ j, (sixT gs j).length = 16
  | 0 => zs_len 16
  | j + 1 => by unfold sixT; rw [List.length_set, List.length_set, sixT_len gs j]
theorem sixB_len (gs : List Int) : (sixB gs).length = 16 := sixT_len _ _
def W16 (x : Int) : Prop := 0 ≤ x ∧ x ≤ 65535
theorem set_byte {b : List Int} (h : ∀ x ∈ b, Byte x) {y : Int} (hy : Byte y) (j : Nat) : ∀ x ∈ b.set j y, Byte x := by
  intro x hx
  rcases List.mem_or_eq_of_mem_set hx with h1 | rfl
  · exact h x h1
  · exact hy
theorem sixT_byte {gs : List Int} (h : ∀ x ∈ gs, W16 x) : ∀ j, j ≤ gs.length → ∀ x ∈ sixT gs j, Byte x
  | 0, _ => by unfold sixT zs Byte; intro x hx; rw [List.eq_of_mem_replicate hx]; omega
  | j + 1, hj => by
    have h1 : W16 (gs.getD j 0) := by
      rw [List.getD_eq_getElem?_getD, List.getElem?_eq_getElem (by omega)]
      exact h _ (List.getElem_mem _)
    unfold W16 at h1
    unfold sixT
    exact set_byte (set_byte (sixT_byte h j (by omega)) (by unfold Byte; omega) _) (by unfold Byte; omega) _
theorem sixB_byte {gs : List Int} (h : ∀ x ∈ gs, W16 x) : ∀ x ∈ sixB gs, Byte x := sixT_byte h _ (by omega)
def stp (b : List Int) (p q : Nat) (hi lo : Int) (s t : Bool) : List Int :=
  match s, t with
  | false, false => b
  | true, false => b.set p hi
  | false, true => b.set q lo
  | true, true => (b.set p hi).set q lo
theorem stp_s {b : List Int} {p q : Nat} {hi lo : Int} (h : p ≠ q) (t : Bool) : (stp b p q hi lo false t).set p hi = stp b p q hi lo true t := by
  cases t
  · rfl
  · show (b.set q lo).set p hi = (b.set p hi).set q lo
    exact List.set_comm _ _ h.symm
theorem stp_t {b : List Int} {p q : Nat} {hi lo : Int} (s : Bool) : (stp b p q hi lo s false).set q lo = stp b p q hi lo s true := by cases s <;> rfl
theorem stp_len (b : List Int) (p q : Nat) (hi lo : Int) (s t : Bool) : (stp b p q hi lo s t).length = b.length := by cases s <;> cases t <;> simp [stp]
def siV (i p q g gb go n c : Nat) (x hi lo : Int) : Nat → Value → Prop
  | 0, v => v = .int .i64 i
  | 1, v => v = .int .i64 p
  | 2, v => v = .int .i64 i
  | 3, v => v = .int .i64 p
  | 4, v => v = .int .i64 q
  | 5, v => v = .slice (some ⟨gb, go, none⟩) n c
  | 6, v => v = .int .i64 i
  | 7, v => v = .pointer (some ⟨gb, go + i, none⟩)
  | 8, v => v = .int .u16 x
  | 9, v => v = .int .u16 hi
  | 10, v => v = .int .u8 hi
  | 11, v => v = .slice (some ⟨gb, go, none⟩) n c
  | 12, v => v = .int .i64 i
  | 13, v => v = .pointer (some ⟨gb, go + i, none⟩)
  | 14, v => v = .int .u16 x
  | 15, v => v = .int .u8 lo
  | 16, v => v = .pointer (some ⟨g, 1, none⟩)
  | 17, v => v = .pointer (some ⟨g, 1 + p, none⟩)
  | 19, v => v = .pointer (some ⟨g, 1, none⟩)
  | 20, v => v = .pointer (some ⟨g, 1 + q, none⟩)
  | _, _ => True
def siT : List (Option Nat) := [none, none, none, none, none, none, none, none, none, none, none, none, none, none, none, none, some 0, some 1, some 2, some 3, some 4, some 5, some 6, some 7, some 8, some 9, some 10, some 11, some 12, some 13, some 14, some 15, some 16, some 17, some 19, some 20, none]
structure SJ (w0 : World) (Z : Array Value) (b : List Int) (i p q g gb go n c : Nat) (x hi lo : Int) (m : Nat → Bool) (us : Nat → Value) (w : World) : Prop where
  bel : Below w0.heap.size w0 w
  res : w.heap[w0.heap.size]? = some (.cells Z 24 (0, 0))
  row : w.heap[g]? = some (.cells (adrV true (stp b p q hi lo (m 18) (m 21))) 24 (0, 0))
  vals : ∀ k, m k = true → siV i p q g gb go n c x hi lo k (us k)
section
variable {w0 w : World} {Z : Array Value} {b : List Int} {i p q g gb go n c : Nat} {x hi lo : Int} {m : Nat → Bool} {us : Nat → Value}
theorem SJ.val (h : SJ w0 Z b i p q g gb go n c x hi lo m us w) {k : Nat} (h1 : k ≠ 18) (h2 : k ≠ 21) {v : Value} (hv : siV i p q g gb go n c x hi lo k v) : SJ w0 Z b i p q g gb go n c x hi lo (upd m k true) (upd us k v) w := by
  refine ⟨h.bel, h.res, ?_, fun j hj => ?_⟩
  · rw [upd_other _ _ h1.symm, upd_other _ _ h2.symm]; exact h.row
  · by_cases e : j = k
    · subst e; rw [upd_same]; exact hv
    · rw [upd_other _ _ e] at hj ⊢; exact h.vals j hj
theorem SJ.s18 (h : SJ w0 Z b i p q g gb go n c x hi lo m us w) (hm : m 18 = false) (hpq : p ≠ q) (hg : w0.heap.size < g) : SJ w0 Z b i p q g gb go n c x hi lo (upd m 18 true) (upd us 18 undef) (w.setCell ⟨g, 1 + p, none⟩ (.int .u8 hi)) := by
  have hr := h.row
  rw [hm] at hr
  refine ⟨h.bel.setCell (p := ⟨g, 1 + p, none⟩) (by show w0.heap.size ≤ g; omega) _, ?_, ?_, fun j hj => ?_⟩
  · rw [heap_setCell_other w ⟨g, 1 + p, none⟩ _ _ (fun e => by simp at e; omega)]; exact h.res
  · rw [heap_setCell_same w g (1 + p) _ 24 _ hr, adrV_set, stp_s hpq]; rfl
  · by_cases e : j = 18
    · subst e; exact trivial
    · rw [upd_other _ _ e] at hj ⊢; exact h.vals j hj
theorem SJ.s21 (h : SJ w0 Z b i p q g gb go n c x hi lo m us w) (hm : m 21 = false) (hg : w0.heap.size < g) : SJ w0 Z b i p q g gb go n c x hi lo (upd m 21 true) (upd us 21 undef) (w.setCell ⟨g, 1 + q, none⟩ (.int .u8 lo)) := by
  have hr := h.row
  rw [hm] at hr
  refine ⟨h.bel.setCell (p := ⟨g, 1 + q, none⟩) (by show w0.heap.size ≤ g; omega) _, ?_, ?_, fun j hj => ?_⟩
  · rw [heap_setCell_other w ⟨g, 1 + q, none⟩ _ _ (fun e => by simp at e; omega)]; exact h.res
  · rw [heap_setCell_same w g (1 + q) _ 24 _ hr, adrV_set, stp_t]; rfl
  · by_cases e : j = 21
    · subst e; exact trivial
    · rw [upd_other _ _ e] at hj ⊢; exact h.vals j hj
end
/-- the state of the loop -/
structure SS (w : World) (g : Nat) (Z : Array Value) (gs : List Int) (j : Nat) (wr : World) : Prop where
  bel : Below w.heap.size w wr
  res : wr.heap[w.heap.size]? = some (.cells Z 24 (0, 0))
  row : wr.heap[g]? = some (.cells (adrV true (sixT gs j)) 24 (0, 0))
set_option maxRecDepth 100000 in
set_option maxHeartbeats 2000000 in
theorem six_make (A : Option Addr) (n c : Nat) (gs : List Int) (w : World) (hb : Nums .u16 w w.heap.size A n gs) (hy : ∀ x ∈ gs, W16 x) (hn : n ≤ 100000) :
    Calls Tryd.prog 11 #[.slice A n c] w (Ret w (.agg (adrV true (sixB gs)))) := by
  obtain ⟨Z, hZ⟩ : ∃ Z, Z = zAdr := ⟨_, rfl⟩
  have hzv := zeroAdr
  rw [← hZ] at hzv
  obtain ⟨T, hT⟩ : ∃ T, T = adrV true (sixB gs) := ⟨_, rfl⟩
  have HTT := Lib.hid hT
  have UT := Lib.hid (show (Tryd.prog.info? 24).map (·.size) = some T.size by rw [addr_info, hT, adrV_size (sixB_len _)])
  have UT0 := Lib.hid (show (Tryd.prog.info? 24).map (·.size) = some (adrV true (zs 16)).size by rw [addr_info]; rfl)
  have ZT := Lib.hid (show Z.size = T.size by rw [hZ, hT, adrV_size (sixB_len _)]; rfl)
  have ZT0 := Lib.hid (show Z.size = (adrV true (zs 16)).size by rw [hZ]; rfl)
  have OT := Lib.hid (show T.all (·.oneCell') = true by rw [hT]; exact adrV_one _ _)
  have OT0 := Lib.hid (show (adrV true (zs 16)).all (·.oneCell') = true by exact adrV_one _ _)
  have e1 : (w.alloc (.cells Z 24)).heap.size = w.heap.size + 1 := alloc_size _ _
  obtain ⟨W, hW⟩ : ∃ W, W = (w.alloc (.cells Z 24)).alloc (.cells (adrV true (zs 16)) 24) := ⟨_, rfl⟩
  have S0 := Lib.hid (show SS w (w.heap.size + 1) Z gs 0 W from ⟨by rw [hW]; exact ((Below.refl _ _).alloc (Nat.le_refl _) _).alloc (by simp) _, by rw [hW, Below.block (alloc_below _ _) _ (by rw [e1]; omega)]; exact heap_alloc_new w _, by rw [hW, ← e1]; exact heap_alloc_new _ _⟩)
  have GL := Lib.hid hb.len
  have NB := Lib.hid hb
  have UY := Lib.hid hy
  rw [← hT]
  clear hZ hT hb hy
  go_enter Tryd.func11, Tryd.ntmps11
  have RZ := Lib.hid (show ((w.alloc (.cells Z 24)).alloc (.cells Z 24)).heap[w.heap.size + 1]? = some (.cells Z 24 (0, 0)) by rw [← e1]; exact heap_alloc_new _ _)
  go_upto_region 2 with (first
    | (refine wpList_buildTo rfl 24 _ rfl (some 5) rfl (adrV true (zs 16)) (by kernel_rfl) ?_)
    | (refine wpList_store_row rfl 24 (.tmp 3) (.tmp 5) rfl (w.heap.size + 1) (adrV true (zs 16)) rfl rfl _ _ RZ.out UT0.out ZT0.out OT0.out ?_))
  rw [← e1, World.setRow_alloc_new, ← hW, e1]
  obtain ⟨g, hgd⟩ : ∃ g, g = w.heap.size + 1 := ⟨_, rfl⟩
  have HGL := Lib.hid (show w.heap.size < g by omega)
  rw [← hgd] at S0 ⊢
  clear hW e1 hzv RZ hgd
  go_wp2_with fail
  go_loopw [4] (fun v wr => ∃ j : Nat, j ≤ 8 ∧ j ≤ n ∧ v = .int .i64 j ∧ SS w g Z gs j wr) (fun v _ => 8 - (intOf v).toNat)
  case atStart => exact ⟨0, by omega, by omega, rfl, S0.out⟩
  case round =>
    obtain ⟨i, hi, hin, rfl, KK⟩ := hrel
    have HK := Lib.hid KK
    clear KK
    by_cases h8 : i < 8
    · by_cases hlt : i < n
      · obtain ⟨gb, go, rfl, hgb, hc0⟩ := NB.out.cell hlt
        have hz8 : (i : Int) < 8 := by omega
        have hzn : (i : Int) < (n : Int) := by omega
        have hx : W16 (gs.getD i 0) := by
          rw [List.getD_eq_getElem?_getD, List.getElem?_eq_getElem (by rw [GL.out]; exact hlt)]
          exact UY.out _ (List.getElem_mem _)
        have HST := Lib.hid (show sixT gs (i + 1) = ((sixT gs i).set (2 * i) (gs.getD i 0 / 256)).set (2 * i + 1) (gs.getD i 0 % 256) from rfl)
        generalize gs.getD i 0 = x at *
        obtain ⟨x0, x1⟩ := hx
        obtain ⟨p, hp⟩ : ∃ p, p = 2 * i := ⟨_, rfl⟩
        obtain ⟨q, hq⟩ : ∃ q, q = 2 * i + 1 := ⟨_, rfl⟩
        obtain ⟨hi', hhi⟩ : ∃ h, h = x / 256 := ⟨_, rfl⟩
        obtain ⟨lo, hlo⟩ : ∃ l, l = x % 256 := ⟨_, rfl⟩
        rw [← hq, ← hp, ← hhi, ← hlo] at HST
        have HPQ := Lib.hid (show p ≠ q by omega)
        have HP16 := Lib.hid (show p < (sixT gs i).length by rw [sixT_len]; omega)
        have HQ16 := Lib.hid (show q < (sixT gs i).length by rw [sixT_len]; omega)
        have ep : (2 : Int) * (i : Int) = (p : Int) := by omega
        have eq : (p : Int) + 1 = (q : Int) := by omega
        have WP := Lib.hid (show IntKind.i64.wrap (p : Int) = (p : Int) from IntWalk.i64_in _ (by omega))
        have WQ := Lib.hid (show IntKind.i64.wrap (q : Int) = (q : Int) from IntWalk.i64_in _ (by omega))
        have p16 : p < 16 := by omega
        have q16 : q < 16 := by omega
        have pz : (p : Int) < 16 := by omega
        have qz : (q : Int) < 16 := by omega
        have HH := Lib.hid (show x / 256 = hi' from hhi.symm)
        have WH := Lib.hid (show IntKind.u8.wrap hi' = hi' from IntWalk.u8_in _ (by omega))
        have WL := Lib.hid (show IntKind.u8.wrap x = lo by rw [hlo]; exact IntKind.wrap_u8 x)
        have CX := Lib.hid (fun (w' : World) (B : Below w.heap.size w w') => (show w'.cell? ⟨gb, go + i, none⟩ = some (.int .u16 x) from (B.cell (p := ⟨gb, go + i, none⟩) hgb).trans hc0))
        have RC := Lib.hid (fun (w' : World) (bb : List Int) (hr : w'.heap[g]? = some (.cells (adrV true bb) 24 (0, 0))) (k : Nat) (hk : k < bb.length) => (show w'.cell? ⟨g, 1 + k, none⟩ = some (.int .u8 (bb.getD k 0)) ∧ w'.frozen? ⟨g, 1 + k, none⟩ = false from
          ⟨by rw [cell_of_row w' g (1 + k) _ _ (0, 0) hr]; exact adrV_at hk, frozen_of_row w' g (1 + k) _ 24 hr⟩))
        have HJ0 := Lib.hid (fun us => show SJ w Z (sixT gs i) i p q g gb go n c x hi' lo (fun _ => false) us wr.drew from ⟨HK.out.bel.drew, HK.out.res, HK.out.row, fun k h => by cases h⟩)
        have HNX := Lib.hid (fun (w3 : World) (B : Below w.heap.size w w3) (h1 : w3.heap[w.heap.size]? = some (.cells Z 24 (0, 0))) (h2 : w3.heap[g]? = some (.cells (adrV true (stp (sixT gs i) p q hi' lo true true)) 24 (0, 0))) => (show SS w g Z gs (i + 1) w3 from ⟨B, h1, by rw [HST.out]; exact h2⟩))
        clear hhi hlo hp hq hc0 HST
        generalize sixT gs i = b at *
        go_upto_region 5 with fail
        refine with_act fun a0 ha0 => ?_
        have hl : siT.length = a0.tmps.size := by rw [ha0]; rfl
        have k0 : a0.tmps[0]?.getD undef = .slice (some ⟨gb, go, none⟩) n c := by rw [ha0]; rfl
        have k3 : a0.tmps[3]?.getD undef = .pointer (some ⟨g, 0, none⟩) := by rw [ha0]; rfl
        have k4 : a0.tmps[4]?.getD undef = .int .i64 i := by rw [ha0]; rfl
        refine wp_region_J (by kernel_rfl) siT (by kernel_rfl) (by kernel_rfl) hl (fun j => a0.tmps[if j = 19 then 34 else if j = 20 then 35 else 16 + j]?.getD undef) (by rw [ha0]; rfl) (SJ w Z b i p q g gb go n c x hi' lo) (HJ0.out _) ⟨?_, ?_, ?_, ?_, ?_, ?_, ?_, ?_, ?_, ?_, ?_, ?_, ?_, ?_, ?_, ?_, ?_, ?_, ?_, ?_, ?_, ?_, trivial⟩ ?_
        · refine stepJ [] (by kernel_rfl) rfl fun m us w' hJ hmi hd => ?_
          have o4 := (frame_old2 (us := us) (a := a0) (show (siT[4]?).join = none from rfl)).trans k4
          generalize frame siT a0 us = fr at *
          exact val_J (v := .int .i64 i) (w' := w') (by go_simp) (hJ.val (by decide) (by decide) rfl)
        · refine stepJ [0] (by kernel_rfl) rfl fun m us w' hJ hmi hd => ?_
          have e0 : us 0 = .int .i64 i := hJ.vals 0 (hd 0 (by simp))
          have v0 := (frame_at2 (us := us) hl (show (siT[16]?).join = some 0 from rfl)).trans e0
          have hw := WP.out
          generalize frame siT a0 us = fr at *
          exact val_J (v := .int .i64 p) (w' := w') (by go_simp) (hJ.val (by decide) (by decide) rfl)
        · refine stepJ [] (by kernel_rfl) rfl fun m us w' hJ hmi hd => ?_
          have o4 := (frame_old2 (us := us) (a := a0) (show (siT[4]?).join = none from rfl)).trans k4
          generalize frame siT a0 us = fr at *
          exact val_J (v := .int .i64 i) (w' := w') (by go_simp) (hJ.val (by decide) (by decide) rfl)
        · refine stepJ [2] (by kernel_rfl) rfl fun m us w' hJ hmi hd => ?_
          have e2 : us 2 = .int .i64 i := hJ.vals 2 (hd 2 (by simp))
          have v2 := (frame_at2 (us := us) hl (show (siT[18]?).join = some 2 from rfl)).trans e2
          have hw := WP.out
          generalize frame siT a0 us = fr at *
          exact val_J (v := .int .i64 p) (w' := w') (by go_simp) (hJ.val (by decide) (by decide) rfl)
        · refine stepJ [3] (by kernel_rfl) rfl fun m us w' hJ hmi hd => ?_
          have e3 : us 3 = .int .i64 p := hJ.vals 3 (hd 3 (by simp))
          have v3 := (frame_at2 (us := us) hl (show (siT[19]?).join = some 3 from rfl)).trans e3
          have hw := WQ.out
          generalize frame siT a0 us = fr at *
          exact val_J (v := .int .i64 q) (w' := w') (by go_simp) (hJ.val (by decide) (by decide) rfl)
        · refine stepJ [] (by kernel_rfl) rfl fun m us w' hJ hmi hd => ?_
          have o0 := (frame_old2 (us := us) (a := a0) (show (siT[0]?).join = none from rfl)).trans k0
          generalize frame siT a0 us = fr at *
          exact val_J (v := .slice (some ⟨gb, go, none⟩) n c) (w' := w') (by go_simp) (hJ.val (by decide) (by decide) rfl)
        · refine stepJ [] (by kernel_rfl) rfl fun m us w' hJ hmi hd => ?_
          have o4 := (frame_old2 (us := us) (a := a0) (show (siT[4]?).join = none from rfl)).trans k4
          generalize frame siT a0 us = fr at *
          exact val_J (v := .int .i64 i) (w' := w') (by go_simp) (hJ.val (by decide) (by decide) rfl)
        · refine stepJ [5, 6] (by kernel_rfl) rfl fun m us w' hJ hmi hd => ?_
          have e5 : us 5 = .slice (some ⟨gb, go, none⟩) n c := hJ.vals 5 (hd 5 (by simp))
          have v5 := (frame_at2 (us := us) hl (show (siT[21]?).join = some 5 from rfl)).trans e5
          have e6 : us 6 = .int .i64 i := hJ.vals 6 (hd 6 (by simp))
          have v6 := (frame_at2 (us := us) hl (show (siT[22]?).join = some 6 from rfl)).trans e6
          generalize frame siT a0 us = fr at *
          exact val_J (v := .pointer (some ⟨gb, go + i, none⟩)) (w' := w') (by go_simp) (hJ.val (by decide) (by decide) rfl)
        · refine stepJ [7] (by kernel_rfl) rfl fun m us w' hJ hmi hd => ?_
          have e7 : us 7 = .pointer (some ⟨gb, go + i, none⟩) := hJ.vals 7 (hd 7 (by simp))
          have v7 := (frame_at2 (us := us) hl (show (siT[23]?).join = some 7 from rfl)).trans e7
          have hc := CX.out w' hJ.bel
          generalize frame siT a0 us = fr at *
          exact val_J (v := .int .u16 x) (w' := w') (by go_simp) (hJ.val (by decide) (by decide) rfl)
        · refine stepJ [8] (by kernel_rfl) rfl fun m us w' hJ hmi hd => ?_
          have e8 : us 8 = .int .u16 x := hJ.vals 8 (hd 8 (by simp))
          have v8 := (frame_at2 (us := us) hl (show (siT[24]?).join = some 8 from rfl)).trans e8
          have hh := HH.out
          generalize frame siT a0 us = fr at *
          exact val_J (v := .int .u16 hi') (w' := w') (by go_simp) (hJ.val (by decide) (by decide) rfl)
        · refine stepJ [9] (by kernel_rfl) rfl fun m us w' hJ hmi hd => ?_
          have e9 : us 9 = .int .u16 hi' := hJ.vals 9 (hd 9 (by simp))
          have v9 := (frame_at2 (us := us) hl (show (siT[25]?).join = some 9 from rfl)).trans e9
          have hw := WH.out
          generalize frame siT a0 us = fr at *
          exact val_J (v := .int .u8 hi') (w' := w') (by go_simp) (hJ.val (by decide) (by decide) rfl)
        · refine stepJ [] (by kernel_rfl) rfl fun m us w' hJ hmi hd => ?_
          have o0 := (frame_old2 (us := us) (a := a0) (show (siT[0]?).join = none from rfl)).trans k0
          generalize frame siT a0 us = fr at *
          exact val_J (v := .slice (some ⟨gb, go, none⟩) n c) (w' := w') (by go_simp) (hJ.val (by decide) (by decide) rfl)
        · refine stepJ [] (by kernel_rfl) rfl fun m us w' hJ hmi hd => ?_
          have o4 := (frame_old2 (us := us) (a := a0) (show (siT[4]?).join = none from rfl)).trans k4
          generalize frame siT a0 us = fr at *
          exact val_J (v := .int .i64 i) (w' := w') (by go_simp) (hJ.val (by decide) (by decide) rfl)
        · refine stepJ [11, 12] (by kernel_rfl) rfl fun m us w' hJ hmi hd => ?_
          have e11 : us 11 = .slice (some ⟨gb, go, none⟩) n c := hJ.vals 11 (hd 11 (by simp))
          have v11 := (frame_at2 (us := us) hl (show (siT[27]?).join = some 11 from rfl)).trans e11
          have e12 : us 12 = .int .i64 i := hJ.vals 12 (hd 12 (by simp))
          have v12 := (frame_at2 (us := us) hl (show (siT[28]?).join = some 12 from rfl)).trans e12
          generalize frame siT a0 us = fr at *
          exact val_J (v := .pointer (some ⟨gb, go + i, none⟩)) (w' := w') (by go_simp) (hJ.val (by decide) (by decide) rfl)
        · refine stepJ [13] (by kernel_rfl) rfl fun m us w' hJ hmi hd => ?_
          have e13 : us 13 = .pointer (some ⟨gb, go + i, none⟩) := hJ.vals 13 (hd 13 (by simp))
          have v13 := (frame_at2 (us := us) hl (show (siT[29]?).join = some 13 from rfl)).trans e13
          have hc := CX.out w' hJ.bel
          generalize frame siT a0 us = fr at *
          exact val_J (v := .int .u16 x) (w' := w') (by go_simp) (hJ.val (by decide) (by decide) rfl)
        · refine stepJ [14] (by kernel_rfl) rfl fun m us w' hJ hmi hd => ?_
          have e14 : us 14 = .int .u16 x := hJ.vals 14 (hd 14 (by simp))
          have v14 := (frame_at2 (us := us) hl (show (siT[30]?).join = some 14 from rfl)).trans e14
          have hw := WL.out
          generalize frame siT a0 us = fr at *
          exact val_J (v := .int .u8 lo) (w' := w') (by go_simp) (hJ.val (by decide) (by decide) rfl)
        · refine stepJ [] (by kernel_rfl) rfl fun m us w' hJ hmi hd => ?_
          have o3 := (frame_old2 (us := us) (a := a0) (show (siT[3]?).join = none from rfl)).trans k3
          generalize frame siT a0 us = fr at *
          exact val_J (v := .pointer (some ⟨g, 1, none⟩)) (w' := w') (by go_simp) (hJ.val (by decide) (by decide) rfl)
        · refine stepJ [1, 16] (by kernel_rfl) rfl fun m us w' hJ hmi hd => ?_
          have e1 : us 1 = .int .i64 p := hJ.vals 1 (hd 1 (by simp))
          have v1 := (frame_at2 (us := us) hl (show (siT[17]?).join = some 1 from rfl)).trans e1
          have e16 : us 16 = .pointer (some ⟨g, 1, none⟩) := hJ.vals 16 (hd 16 (by simp))
          have v16 := (frame_at2 (us := us) hl (show (siT[32]?).join = some 16 from rfl)).trans e16
          generalize frame siT a0 us = fr at *
          exact val_J (v := .pointer (some ⟨g, 1 + p, none⟩)) (w' := w') (by go_simp) (hJ.val (by decide) (by decide) rfl)
        · refine stepJ [10, 17] (by kernel_rfl) rfl fun m us w' hJ hmi hd => ?_
          have e10 : us 10 = .int .u8 hi' := hJ.vals 10 (hd 10 (by simp))
          have v10 := (frame_at2 (us := us) hl (show (siT[26]?).join = some 10 from rfl)).trans e10
          have e17 : us 17 = .pointer (some ⟨g, 1 + p, none⟩) := hJ.vals 17 (hd 17 (by simp))
          have v17 := (frame_at2 (us := us) hl (show (siT[33]?).join = some 17 from rfl)).trans e17
          obtain ⟨hc, hf⟩ := RC.out w' _ hJ.row p (by rw [stp_len]; exact HP16.out)
          generalize frame siT a0 us = fr at *
          exact free_skip (w' := w'.setCell ⟨g, 1 + p, none⟩ (.int .u8 hi')) (by go_simp) ⟨undef, rfl, hJ.s18 hmi HPQ.out HGL.out⟩
        · refine stepJ [] (by kernel_rfl) rfl fun m us w' hJ hmi hd => ?_
          have o3 := (frame_old2 (us := us) (a := a0) (show (siT[3]?).join = none from rfl)).trans k3
          generalize frame siT a0 us = fr at *
          exact val_J (v := .pointer (some ⟨g, 1, none⟩)) (w' := w') (by go_simp) (hJ.val (by decide) (by decide) rfl)
        · refine stepJ [4, 19] (by kernel_rfl) rfl fun m us w' hJ hmi hd => ?_
          have e4 : us 4 = .int .i64 q := hJ.vals 4 (hd 4 (by simp))
          have v4 := (frame_at2 (us := us) hl (show (siT[20]?).join = some 4 from rfl)).trans e4
          have e19 : us 19 = .pointer (some ⟨g, 1, none⟩) := hJ.vals 19 (hd 19 (by simp))
          have v19 := (frame_at2 (us := us) hl (show (siT[34]?).join = some 19 from rfl)).trans e19
          generalize frame siT a0 us = fr at *
          exact val_J (v := .pointer (some ⟨g, 1 + q, none⟩)) (w' := w') (by go_simp) (hJ.val (by decide) (by decide) rfl)
        · refine stepJ [15, 20] (by kernel_rfl) rfl fun m us w' hJ hmi hd => ?_
          have e15 : us 15 = .int .u8 lo := hJ.vals 15 (hd 15 (by simp))
          have v15 := (frame_at2 (us := us) hl (show (siT[31]?).join = some 15 from rfl)).trans e15
          have e20 : us 20 = .pointer (some ⟨g, 1 + q, none⟩) := hJ.vals 20 (hd 20 (by simp))
          have v20 := (frame_at2 (us := us) hl (show (siT[35]?).join = some 20 from rfl)).trans e20
          obtain ⟨hc, hf⟩ := RC.out w' _ hJ.row q (by rw [stp_len]; exact HQ16.out)
          generalize frame siT a0 us = fr at *
          exact free_skip (w' := w'.setCell ⟨g, 1 + q, none⟩ (.int .u8 lo)) (by go_simp) ⟨undef, rfl, hJ.s21 hmi HGL.out⟩
        · intro m us w3 hmm hJ
          have h18 := hmm 18 (by decide)
          have h21 := hmm 21 (by decide)
          have hr := hJ.row
          rw [h18, h21] at hr
          have HN := Lib.hid (HNX.out w3 hJ.bel hJ.res hr)
          subst ha0
          simp only [frame, siT, fill]
          clear hJ hmm hl k0 k3 k4 hr h18 h21
          go_wp2_with fail
          go_roundw
          case rel => exact ⟨i + 1, by omega, by omega, by go_num, HN.out⟩
          case measure => simp [intOf]; omega
      · have e : i = n := by omega
        subst e
        have HR := Lib.hid (show wr.heap[g]? = some (.cells T 24 (0, 0)) by
          have h := HK.out.row
          rw [HTT.out]
          unfold sixB
          rw [GL.out, Nat.min_eq_right (by omega)]; exact h)
        have HR0 := Lib.hid HK.out.res
        have HB := Lib.hid HK.out.bel
        go_wp2_with (first
          | (refine wpList_load_row rfl 24 (.tmp 3) rfl g rfl _ _ _ _ HR.out Tryd.underlying24 rfl UT.out ?_)
          | (refine wpList_store_row rfl 24 (.tmp 2) (.tmp 36) rfl w.heap.size _ rfl rfl _ _ HR0.out UT.out ZT.out OT.out ?_))
        refine bodyPost_ret (v := .agg T) (results_cell_row Tryd.results11 _ _ w.heap.size _ _ _ _ (by rfl) (setRow_heap _ _ _ _ _ _ HR0.out) Tryd.underlying24 rfl UT.out) rfl ⟨rfl, ?_⟩
        exact HB.out.trans ⟨rfl, rfl, rfl, by simp, fun z hz => setRow_other _ _ _ _ (by omega)⟩
    · have e : i = 8 := by omega
      subst e
      have HR := Lib.hid (show wr.heap[g]? = some (.cells T 24 (0, 0)) by
        have h := HK.out.row
        rw [HTT.out]
        unfold sixB
        rw [GL.out, Nat.min_eq_left (by omega)]; exact h)
      have HR0 := Lib.hid HK.out.res
      have HB := Lib.hid HK.out.bel
      go_wp2_with (first
        | (refine wpList_load_row rfl 24 (.tmp 3) rfl g rfl _ _ _ _ HR.out Tryd.underlying24 rfl UT.out ?_)
        | (refine wpList_store_row rfl 24 (.tmp 2) (.tmp 36) rfl w.heap.size _ rfl rfl _ _ HR0.out UT.out ZT.out OT.out ?_))
      refine bodyPost_ret (v := .agg T) (results_cell_row Tryd.results11 _ _ w.heap.size _ _ _ _ (by rfl) (setRow_heap _ _ _ _ _ _ HR0.out) Tryd.underlying24 rfl UT.out) rfl ⟨rfl, ?_⟩
      exact HB.out.trans ⟨rfl, rfl, rfl, by simp, fun z hz => setRow_other _ _ _ _ (by omega)⟩
end Go.Proofs.YtmkekdmkefkfiaaDoor.adC
