/-
  4 texts of a proof, joined.
-/
import Derived.Test.YtmkekdmkefkfiaaDoorMg21
import Derived.Test.YtmkekdmkefkfiaaDoorMg23
import Derived.Test.YtmkekdmkefkfiaaDoorMg5

/-
  The program and the document read the same.
-/
namespace Go.Proofs.YtmkekdmkefkfiaaDoor.adC
open Go.ChangeShapes Go.WideShapes Go.ChangeAt Go.RowKit
open Go.Proofs.YtmkekdmkefkfiaaDoor.memC Go.Proofs.YtmkekdmkefkfiaaDoor.genC
open Go.Proofs.YtmkekdmkefkfiaaDoor.hexM (nib nib_bd)
set_option linter.unusedVariables false
theorem gofF_dig : ∀ (l : List Int) (m : Nat), 0 ≤ gofF l m → ∀ x ∈ l, nib x ≤ 15
  | [], m, _, x, h => by cases h
  | y :: r, m, h, x, hx => by
    unfold gofF at h
    split at h
    · rcases List.mem_cons.1 hx with rfl | h3
      · assumption
      · exact gofF_dig r _ h x h3
    · omega
theorem gofL_dig {l : List Int} (h : 0 ≤ gofL l) : ∀ x ∈ l, nib x ≤ 15 := by
  unfold gofL at h
  split at h
  · omega
  · exact gofF_dig l 0 h
theorem nib_col : ¬ nib 58 ≤ 15 := by decide
theorem nib_dot : ¬ nib 46 ≤ 15 := by decide
theorem gacc_long : ∀ (ls : List (List Int)) (acc : List Int), (∃ l ∈ ls, gofL l < 0) → gacc ls acc = none
  | [], acc, h => by obtain ⟨l, hl, _⟩ := h; cases hl
  | y :: r, acc, h => by
    unfold gacc
    by_cases hy : gofL y < 0
    · rw [if_pos hy]
    · rw [if_neg hy]
      obtain ⟨l, hl, h2⟩ := h
      rcases List.mem_cons.1 hl with rfl | h3
      · exact absurd h2 hy
      · exact gacc_long r _ ⟨l, h3, h2⟩
/-- the two readings of groups: the same, or refused and too many -/
theorem cgr_grs (ys : List Int) : cgrL ys = grsL ys ∨ (cgrL ys = none ∧ ∀ a, grsL ys = some a → 9 < a.length) := by
  unfold cgrL grsL
  by_cases h0 : ys = []
  · left; rw [if_pos h0, if_pos h0]
  · rw [if_neg h0, if_neg h0]
    by_cases hl : (splL 58 ys).length ≤ 9
    · left; rw [spn_few 58 8 ys (by omega)]
    · right
      refine ⟨?_, fun a ha => ?_⟩
      · obtain ⟨_, l, h1, h2⟩ := spn_many 58 8 ys (by omega)
        refine gacc_long _ _ ⟨l, h1, ?_⟩
        rcases Int.lt_or_le (gofL l) 0 with h3 | h3
        · exact h3
        · exact absurd (gofL_dig h3 58 h2) nib_col
      · obtain ⟨h1, _⟩ := gacc_parts _ _ _ ha
        rw [h1, List.nil_append, List.length_map]; omega
theorem grs_no {ys a : List Int} (h : grsL ys = some a) : 46 ∉ ys := fun hd => by
  unfold grsL at h
  split at h
  · rename_i h0; rw [h0] at hd; cases hd
  · obtain ⟨_, h2⟩ := gacc_parts _ _ _ h
    rw [← join_spl 58 ys] at hd
    rcases join_mem 58 _ _ hd with h1 | ⟨l, hl, h1⟩
    · cases h1
    · exact nib_dot (gofL_dig (h2 l hl) 46 h1)
theorem cgr_no {ys a : List Int} (h : cgrL ys = some a) : 46 ∉ ys := by
  rcases cgr_grs ys with e | ⟨e, _⟩
  · rw [e] at h; exact grs_no h
  · rw [e] at h; cases h
theorem fnd_is : ∀ (xs : List Int) (i : Nat), fnd xs = some i → xs = xs.take i ++ 58 :: 58 :: xs.drop (i + 2)
  | [], i, h => by cases h
  | x :: r, i, h => by
    rw [fnd_cons] at h
    split at h
    · rename_i h2
      obtain rfl := Option.some.inj h
      match r, h2 with
      | y :: t, h2 =>
        simp only [List.take_succ_cons, List.take_zero] at h2
        injection h2 with e1 h3
        injection h3 with e2 _
        subst e1 e2
        rfl
    · obtain ⟨j, hj, rfl⟩ := Option.map_eq_some_iff.1 h
      have ih := fnd_is r j hj
      rw [List.take_succ_cons, List.cons_append, show j + 1 + 2 = (j + 2) + 1 by omega, List.drop_succ_cons, ← ih]
theorem psx_dot {xs : List Int} (h : 46 ∈ xs) : psxL xs = none := by
  cases hp : psxL xs with
  | none => rfl
  | some gs =>
    unfold psxL at hp
    cases ha : cgrL (cutF xs) with
    | none => rw [ha] at hp; cases hp
    | some a =>
      cases hb : cgrL (cutB xs) with
      | none => rw [ha, hb] at hp; cases hp
      | some b =>
        have n1 := cgr_no ha
        have n2 := cgr_no hb
        unfold cutF at n1
        unfold cutB at n2
        cases hf : fnd xs with
        | none => rw [hf] at n1; exact absurd h n1
        | some i =>
          rw [hf] at n1 n2
          rw [fnd_is xs i hf] at h
          rcases List.mem_append.1 h with h1 | h1
          · exact absurd h1 n1
          · rcases List.mem_cons.1 h1 with h2 | h2
            · cases h2
            · rcases List.mem_cons.1 h2 with h3 | h3
              · cases h3
              · exact absurd h3 n2
theorem sixF_fnd (xs : List Int) : ∀ f i, i + f = xs.length → sixF xs f i = match fnd (xs.drop i) with | some j => gapG xs (i + j) | none => wholeG xs
  | 0, i, h => by
    rw [List.drop_of_length_le (by omega)]
    rfl
  | f + 1, i, h => by
    have hd : xs.drop i = xs[i]'(by omega) :: xs.drop (i + 1) := List.drop_eq_getElem_cons (by omega)
    by_cases hlt : i + 1 < xs.length
    · by_cases hg : (xs.drop i).take 2 = [58, 58]
      · rw [sixF_gap hlt hg]
        rw [hd] at hg
        rw [hd, fnd_cons, if_pos hg]
        rfl
      · rw [sixF_on hlt hg, sixF_fnd xs f (i + 1) (by omega)]
        rw [hd] at hg
        rw [hd, fnd_cons, if_neg hg]
        cases fnd (xs.drop (i + 1)) with
        | none => rfl
        | some j => show gapG xs (i + 1 + j) = gapG xs (i + (j + 1)); rw [show i + 1 + j = i + (j + 1) by omega]
    · rw [sixF_end hlt, hd, List.drop_of_length_le (by omega), fnd_cons, if_neg (by simp)]
      rfl
theorem six_same (xs : List Int) : sixL xs = psxL xs := by
  unfold sixL
  rw [sixF_fnd xs xs.length 0 (by omega), List.drop_zero]
  unfold psxL cutF cutB cutS
  cases hf : fnd xs with
  | none =>
    simp only
    have h3 : cgrL [] = some [] := by unfold cgrL; rw [if_pos rfl]
    rw [h3]
    unfold wholeG
    rcases cgr_grs xs with e | ⟨e, hl⟩
    · rw [e]
      cases hg : grsL xs with
      | none => rfl
      | some a =>
        simp only [List.length_nil, Nat.add_zero, Option.isSome_none]
        by_cases h8 : a.length = 8
        · rw [if_pos h8, if_pos ⟨by omega, by rw [decide_eq_false (by omega)]⟩, h8]; simp [zs]
        · rw [if_neg h8, if_neg (fun c => by
            have := c.2
            have h9 : ¬ a.length < 8 := fun q => by rw [decide_eq_true q] at this; cases this
            omega)]
    · rw [e]
      cases hg : grsL xs with
      | none => rfl
      | some a => have := hl a hg; simp only; rw [if_neg (by omega)]
  | some i =>
    simp only [Nat.zero_add, Option.isSome_some]
    unfold gapG
    rcases cgr_grs (xs.take i) with e | ⟨e, hl⟩
    · rw [e]
      cases hg : grsL (xs.take i) with
      | none => rfl
      | some a =>
        rcases cgr_grs (xs.drop (i + 2)) with e2 | ⟨e2, hl2⟩
        · rw [e2]
          cases hg2 : grsL (xs.drop (i + 2)) with
          | none => rfl
          | some b =>
            simp only
            by_cases h7 : 7 < a.length + b.length
            · rw [if_pos h7, if_neg (fun c => by
                have := c.2
                rw [decide_eq_false (by omega)] at this; cases this)]
            · rw [if_neg h7, if_pos ⟨by omega, by rw [decide_eq_true (by omega)]⟩, List.append_assoc]
        · rw [e2]
          cases hg2 : grsL (xs.drop (i + 2)) with
          | none => rfl
          | some b => have := hl2 b hg2; simp only; rw [if_pos (by omega)]
    · rw [e]
      cases hg : grsL (xs.take i) with
      | none => rfl
      | some a =>
        have := hl a hg
        cases hg2 : grsL (xs.drop (i + 2)) with
        | none => rfl
        | some b => simp only; rw [if_pos (by omega)]
/-- the program and the document read the same -/
theorem read_same (xs : List Int) : cprsL xs = prsL xs := by
  unfold cprsL prsL
  by_cases h4 : (splL 46 xs).length = 4
  · rw [if_pos h4, spn_few 46 4 xs (by omega)]
    unfold fourG
    rw [if_pos h4]
    cases hf : fourF (splL 46 xs) 0 (zs 16) with
    | some b => rfl
    | none =>
      have hd : 46 ∈ xs := by
        by_cases hd : 46 ∈ xs
        · exact hd
        · rw [splL_is, if_neg hd] at h4; cases h4
      simp only [psx_dot hd]
      rfl
  · rw [if_neg h4]
    have hn : fourG (spn 46 4 xs) = none := by
      unfold fourG
      rw [if_neg]
      rcases Nat.lt_or_ge 5 (splL 46 xs).length with h5 | h5
      · rw [(spn_many 46 4 xs (by omega)).1]; decide
      · rw [spn_few 46 4 xs (by omega)]; exact h4
    rw [hn, six_same]
end Go.Proofs.YtmkekdmkefkfiaaDoor.adC

/-
  The program and the document write the same.
-/
namespace Go.Proofs.YtmkekdmkefkfiaaDoor.adC
open Go.ChangeShapes Go.WideShapes Go.ChangeAt Go.RowKit
open Go.Proofs.YtmkekdmkefkfiaaDoor.memC Go.Proofs.YtmkekdmkefkfiaaDoor.genC
set_option linter.unusedVariables false
theorem text_four_same {b : List Int} (hl : b.length = 16) : ctextL false b = textL false b := by
  unfold ctextL textL
  rw [if_neg (by decide), if_neg (by decide)]
  match b, hl with
  | x0 :: x1 :: x2 :: x3 :: r, _ =>
    show tenT [x0, x1, x2, x3] = _
    unfold tenT
    simp [joinL, fourT]
/-- no run that begins ahead of the longest one is as long -/
theorem z_first (gs : List Int) : ∀ i p k, p + k ≤ i → Zer gs p k → p < zA gs i → k < zM gs i
  | 0, p, k, _, _, h => by have : zA gs 0 = 0 := rfl; omega
  | i + 1, p, k, h, z, hp => by
    obtain ⟨h1, h2, h3, h4⟩ := z_inv gs i
    obtain ⟨l1, l2, l3⟩ := z_le gs i
    have hs := z_sum gs i
    have ih := z_first gs i
    by_cases hx : gs.getD i 0 = 0
    · have hend : p + k = i + 1 → 0 < k → k - 1 ≤ zR gs i := fun e h0 => h4 p (k - 1) (by omega) fun j a b => z j a (by omega)
      by_cases hm : zM gs i < zR gs i + 1
      · obtain ⟨e1, e2, e3⟩ := z_more hx hm
        rw [e1] at hp
        rw [e2]
        rcases Nat.lt_or_ge (p + k) (i + 1) with h5 | h5
        · have := h3 p k (by omega) z; omega
        · rcases Nat.eq_zero_or_pos k with h0 | h0
          · omega
          · have := hend (by omega) h0; omega
      · obtain ⟨e1, e2, e3⟩ := z_less hx hm
        rw [e1] at hp
        rw [e2]
        rcases Nat.lt_or_ge (p + k) (i + 1) with h5 | h5
        · exact ih p k (by omega) z hp
        · rcases Nat.eq_zero_or_pos k with h0 | h0
          · omega
          · have := hend (by omega) h0; omega
    · obtain ⟨e1, e2, e3⟩ := z_not hx
      rw [e1] at hp
      rw [e2]
      rcases Nat.lt_or_ge (p + k) (i + 1) with h5 | h5
      · exact ih p k (by omega) z hp
      · rcases Nat.eq_zero_or_pos k with h0 | h0
        · exact h0 ▸ ih p 0 (by omega) (fun j a b => by omega) hp
        · exact absurd (z i (by omega) (by omega)) hx
theorem gr_zero {b : List Int} {i : Nat} (hi : i < 8) : gr b i = 0 ↔ (grB b).getD i 0 = 0 := by rw [grB_at b hi]; omega
theorem run_zer (b : List Int) : ∀ f i, i + f = 8 → Zer (grB b) i (runG b f i) ∧ ∀ k, i + k ≤ 8 → Zer (grB b) i k → k ≤ runG b f i
  | 0, i, h => ⟨fun j a c => by unfold runG at c; omega, fun k hk _ => by unfold runG; omega⟩
  | f + 1, i, h => by
    obtain ⟨h1, h2⟩ := run_zer b f (i + 1) (by omega)
    unfold runG
    by_cases hz : gr b i = 0
    · rw [if_pos hz]
      refine ⟨fun j a c => ?_, fun k hk z => ?_⟩
      · rcases Nat.lt_or_ge i j with h5 | h5
        · exact h1 j (by omega) (by omega)
        · rw [show j = i by omega]; exact (gr_zero (by omega)).1 hz
      · rcases Nat.eq_zero_or_pos k with h0 | h0
        · omega
        · have := h2 (k - 1) (by omega) fun j a c => z j (by omega) (by omega)
          omega
    · rw [if_neg hz]
      refine ⟨fun j a c => by omega, fun k hk z => ?_⟩
      rcases Nat.eq_zero_or_pos k with h0 | h0
      · omega
      · exact absurd ((gr_zero (by omega)).2 (z i (by omega) (by omega))) hz
theorem runN_zer (b : List Int) {i : Nat} (hi : i ≤ 8) : Zer (grB b) i (runN b i) ∧ ∀ k, i + k ≤ 8 → Zer (grB b) i k → k ≤ runN b i := run_zer b (8 - i) i (by omega)
theorem best_max (b : List Int) : ∀ i, (∀ j, j < i → runN b j ≤ runN b (bestT b i)) ∧ (∀ j, j < bestT b i → runN b j < runN b (bestT b i))
  | 0 => ⟨fun j h => by omega, fun j h => by have : bestT b 0 = 0 := rfl; omega⟩
  | i + 1 => by
    obtain ⟨h1, h2⟩ := best_max b i
    have hle := bestT_le b i
    unfold bestT
    by_cases hc : runN b (bestT b i) < runN b i
    · rw [if_pos hc]
      refine ⟨fun j hj => ?_, fun j hj => ?_⟩
      · rcases Nat.lt_or_ge j i with h5 | h5
        · have := h1 j h5; omega
        · rw [show j = i by omega]; exact Nat.le_refl _
      · have := h1 j hj; omega
    · rw [if_neg hc]
      refine ⟨fun j hj => ?_, h2⟩
      rcases Nat.lt_or_ge j i with h5 | h5
      · exact h1 j h5
      · rw [show j = i by omega]; omega
/-- the two find the same run -/
theorem best_same (b : List Int) : runN b (bestT b 8) = zM (grB b) 8 ∧ (2 ≤ zM (grB b) 8 → bestT b 8 = zA (grB b) 8) := by
  obtain ⟨h1, _, h3, _⟩ := z_inv (grB b) 8
  have hs := z_sum (grB b) 8
  have hle := bestT_le b 8
  obtain ⟨m1, m2⟩ := best_max b 8
  have up : ∀ i, i ≤ 8 → runN b i ≤ zM (grB b) 8 := fun i hi => by
    have hr := runN_le b i
    exact h3 i (runN b i) (by omega) (runN_zer b hi).1
  have za : runN b (zA (grB b) 8) = zM (grB b) 8 := by
    have a1 := up (zA (grB b) 8) (by omega)
    have a2 := (runN_zer b (i := zA (grB b) 8) (by omega)).2 _ hs h1
    omega
  have hb := up (bestT b 8) hle
  have key : runN b (bestT b 8) = zM (grB b) 8 := by
    rcases Nat.lt_or_ge (zA (grB b) 8) 8 with h5 | h5
    · have := m1 _ h5; omega
    · omega
  refine ⟨key, fun h2 => ?_⟩
  rcases Nat.lt_or_ge (bestT b 8) (zA (grB b) 8) with h5 | h5
  · have hr := runN_le b (bestT b 8)
    have := z_first (grB b) 8 (bestT b 8) (runN b (bestT b 8)) (by omega) (runN_zer b hle).1 h5
    omega
  · rcases Nat.lt_or_ge (zA (grB b) 8) (bestT b 8) with h6 | h6
    · have := m2 _ h6; omega
    · omega
/-- groups, each with ':' ahead -/
def colT (gs : List Int) : List Int := gs.flatMap fun x => 58 :: hexL x.toNat
theorem hexT_cons (x : Int) (r : List Int) : hexT (x :: r) = hexL x.toNat ++ colT r := by
  unfold hexT
  induction r generalizing x with
  | nil => simp [joinL, colT]
  | cons y r ih =>
    rw [List.map_cons, List.map_cons, joinL_two]
    have := ih y
    rw [List.map_cons] at this
    rw [this]
    simp [colT]
theorem last_hex (n : Nat) (s : List Int) : (s ++ hexL n) ≠ [] ∧ (s ++ hexL n).getLast? ≠ some 58 := by
  have hne := hexL_ne n
  have hlast : (hexL n).getLast? ≠ some 58 := fun e => by
    have := hexL_dig n 58 (List.mem_of_getLast? e)
    omega
  refine ⟨by simp [hne], ?_⟩
  rw [List.getLast?_append]
  cases hq : (hexL n).getLast? with
  | none => rw [List.getLast?_eq_none_iff] at hq; exact absurd hq hne
  | some y => rw [hq] at hlast; simpa using hlast
theorem drop_cons8 {gs : List Int} (hl : gs.length = 8) {i : Nat} (hi : i < 8) : gs.drop i = gs.getD i 0 :: gs.drop (i + 1) := by
  rw [List.getD_eq_getElem?_getD, List.getElem?_eq_getElem (by omega)]
  exact List.drop_eq_getElem_cons (by omega)
/-- behind a group, no gap ahead: each with ':' -/
theorem prt_col (b : List Int) (best : Nat) : ∀ f i s, i + f = 8 → (∀ j, i ≤ j → j < 8 → j ≠ best) → s ≠ [] → s.getLast? ≠ some 58 → prt b best f i s = s ++ colT ((grB b).drop i)
  | 0, i, s, h, _, _, _ => by
    rw [prt_end (by omega), List.drop_of_length_le (by rw [grB_len]; omega)]
    simp [colT]
  | f + 1, i, s, h, hb, h1, h2 => by
    have hc : colL s = [58] := by unfold colL; rw [if_neg (by simp [h1, h2])]
    rw [prt_one (by omega) (hb i (Nat.le_refl _) (by omega)), hc]
    obtain ⟨g1, g2⟩ := last_hex (gr b i) (s ++ [58])
    rw [prt_col b best f (i + 1) _ (by omega) (fun j a c => hb j (by omega) c) g1 g2, drop_cons8 (grB_len b) (i := i) (by omega), grB_at b (i := i) (by omega)]
    simp [colT]
/-- at the beginning, or behind '::', no gap ahead -/
theorem prt_hex (b : List Int) (best : Nat) (f i : Nat) (s : List Int) (h : i + f = 8) (hb : ∀ j, i ≤ j → j < 8 → j ≠ best) (hs : s = [] ∨ s.getLast? = some 58) : prt b best f i s = s ++ hexT ((grB b).drop i) := by
  cases f with
  | zero =>
    rw [prt_end (by omega), List.drop_of_length_le (by rw [grB_len]; omega)]
    simp [hexT, joinL]
  | succ f =>
    have hc : colL s = [] := by unfold colL; rw [if_pos hs]
    rw [prt_one (by omega) (hb i (Nat.le_refl _) (by omega)), hc, List.append_nil]
    obtain ⟨g1, g2⟩ := last_hex (gr b i) s
    rw [prt_col b best f (i + 1) _ (by omega) (fun j a c => hb j (by omega) c) g1 g2, drop_cons8 (grB_len b) (i := i) (by omega), grB_at b (i := i) (by omega), hexT_cons]
    simp
/-- the groups up to the gap, behind a group -/
theorem prt_upto (b : List Int) (best : Nat) (hbest : best < 8) : ∀ k f i s, i + k = best → best ≤ i + f → i + f = 8 → s ≠ [] → s.getLast? ≠ some 58 → prt b best f i s = prt b best (f - k) best (s ++ colT (((grB b).drop i).take k))
  | 0, f, i, s, h, h1, h2, _, _ => by
    have : i = best := by omega
    subst this
    simp [colT]
  | k + 1, f, i, s, h, h1, h2, g1, g2 => by
    obtain ⟨f', rfl⟩ : ∃ f', f = f' + 1 := ⟨f - 1, by omega⟩
    have hc : colL s = [58] := by unfold colL; rw [if_neg (by simp [g1, g2])]
    rw [prt_one (by omega) (by omega), hc]
    obtain ⟨q1, q2⟩ := last_hex (gr b i) (s ++ [58])
    rw [prt_upto b best hbest k f' (i + 1) _ (by omega) (by omega) (by omega) q1 q2, drop_cons8 (grB_len b) (i := i) (by omega), grB_at b (i := i) (by omega), List.take_succ_cons]
    rw [show f' + 1 - (k + 1) = f' - k by omega]
    simp [colT]
/-- more rounds than are wanted change nothing -/
theorem prt_fuel (b : List Int) (best : Nat) : ∀ g i s, 8 ≤ i + g → best < i → prt b best g i s = prt b best (8 - i) i s
  | 0, i, s, h, _ => by rw [prt_end (by omega), prt_end (by omega)]
  | g + 1, i, s, h, hb => by
    rcases Nat.lt_or_ge i 8 with h8 | h8
    · rw [prt_one h8 (by omega), prt_fuel b best g (i + 1) _ (by omega) (by omega), show 8 - i = (8 - (i + 1)) + 1 by omega, prt_one h8 (by omega)]
    · rw [prt_end h8, prt_end h8]
theorem text_six_same (b : List Int) : ctextL true b = textL true b := by
  obtain ⟨e1, e2⟩ := best_same b
  have hs := z_sum (grB b) 8
  unfold ctextL textL
  rw [if_pos rfl, if_pos rfl]
  unfold gapN
  rw [e1]
  by_cases hm : zM (grB b) 8 < 2
  · rw [if_pos hm, if_pos hm, prt_hex b 8 8 0 [] (by omega) (fun j a c => by omega) (.inl rfl)]
    simp
  · rw [if_neg hm, if_neg hm, e2 (by omega)]
    have hrun : runN b (zA (grB b) 8) = zM (grB b) 8 := by rw [← e2 (by omega)]; exact e1
    generalize zA (grB b) 8 = p at *
    generalize zM (grB b) 8 = m at *
    have hp8 : p < 8 := by omega
    -- behind the gap
    have tail : ∀ f s, p + f = 8 → prt b p f p s = (s ++ [58, 58]) ++ hexT ((grB b).drop (p + m)) := fun f s hf => by
      obtain ⟨f', rfl⟩ : ∃ f', f = f' + 1 := ⟨f - 1, by omega⟩
      rw [prt_gap hp8 rfl, hrun]
      have hfuel : ∀ (g i : Nat) (s : List Int), 8 ≤ i + g → p < i → (s.getLast? = some 58) → prt b p g i s = s ++ hexT ((grB b).drop i) := by
        intro g i s hg hi hl
        rcases Nat.lt_or_ge i 8 with h8 | h8
        · have e := prt_fuel b p g i s hg hi
          rw [e]
          exact prt_hex b p (8 - i) i s (by omega) (fun j a c => by omega) (.inr hl)
        · rw [prt_end h8, List.drop_of_length_le (by rw [grB_len]; omega)]
          simp [hexT, joinL]
      exact hfuel f' (p + m) _ (by omega) (by omega) (by simp)
    rcases Nat.eq_zero_or_pos p with h0 | h0
    · subst h0
      rw [tail 8 [] (by omega)]
      simp [hexT, joinL]
    · have hc : colL [] = [] := by unfold colL; rw [if_pos (.inl rfl)]
      rw [show (8 : Nat) = 7 + 1 from rfl, prt_one (by omega) (by omega), hc, List.append_nil, List.nil_append]
      obtain ⟨g1, g2⟩ := last_hex (gr b 0) []
      rw [List.nil_append] at g1 g2
      rw [prt_upto b p hp8 (p - 1) 7 (0 + 1) _ (by omega) (by omega) (by omega) g1 g2, tail (7 - (p - 1)) _ (by omega)]
      have hd : (grB b).take p = (grB b).getD 0 0 :: ((grB b).drop 1).take (p - 1) := by
        have := drop_cons8 (grB_len b) (i := 0) (by omega)
        rw [List.drop_zero] at this
        obtain ⟨q, rfl⟩ : ∃ q, p = q + 1 := ⟨p - 1, by omega⟩
        conv => lhs; rw [this]
        rw [List.take_succ_cons]; rfl
      rw [hd, hexT_cons, grB_at b (by omega)]
      rfl
end Go.Proofs.YtmkekdmkefkfiaaDoor.adC

/-
  The document's addresses: what Text does.
-/
namespace Go.Proofs.YtmkekdmkefkfiaaDoor.adC
open Go.ChangeShapes Go.WideShapes Go.ChangeAt Go.RowKit
open Go.Proofs.YtmkekdmkefkfiaaDoor.memC Go.Proofs.YtmkekdmkefkfiaaDoor.genC Go.Proofs.YtmkekdmkefkfiaaDoor.butC Go.Proofs.YtmkekdmkefkfiaaDoor.freeC
set_option linter.unusedVariables false
theorem fourT_len {b : List Int} (hl : b.length = 16) (hy : ∀ x ∈ b, Byte x) : ∀ i, i ≤ 4 → (fourT b i).length ≤ 300 * i
  | 0, _ => by simp [fourT]
  | i + 1, h => by
    have h1 := fourT_len hl hy i (by omega)
    have h2 := tenL_len (b.getD i 0).toNat
    have h3 := getD_byte hy (k := i) (by omega)
    unfold Byte at h3
    unfold fourT
    rw [List.length_append, List.length_append]
    have h4 : (if i = 0 then ([] : List Int) else [46]).length ≤ 1 := by split <;> simp
    omega
theorem dot_str : ({ data := #[46] } : ByteArray) = strOfNums [46] := rfl
theorem col_str : ({ data := #[58] } : ByteArray) = strOfNums [58] := rfl
theorem gap_str : ({ data := #[58, 58] } : ByteArray) = strOfNums [58, 58] := rfl
theorem nil_str : ({ data := #[] } : ByteArray) = strOfNums [] := rfl
set_option maxRecDepth 100000 in
set_option maxHeartbeats 1000000 in
theorem text_four (b : List Int) (w : World) (hl : b.length = 16) (hy : ∀ x ∈ b, Byte x) : Calls Tryd.prog 20 #[.agg (adrV false b)] w (Ret w (.string (strOfNums (textL false b)))) := by
  have TN := Lib.hid (fun (n : Nat) (hn : n ≤ 255) w' => ten_any n (by omega) w')
  obtain ⟨W, hW⟩ : ∃ W, W = w.alloc (.cells (adrV false b) 24) := ⟨_, rfl⟩
  have RW : W.heap[w.heap.size]? = some (.cells (adrV false b) 24 (0, 0)) := by rw [hW]; exact heap_alloc_new _ _
  have BW := Lib.hid (show Below w.heap.size w W by rw [hW]; exact alloc_below _ _)
  have k1 : W.cell? ⟨w.heap.size, 0, none⟩ = some (.bool false) := by rw [cell_of_row W _ 0 _ _ (0, 0) RW]; exact adrV_six _ _
  have CL := Lib.hid (fun (i : Nat) (hi : i < 16) (w' : World) (hG : Gr W w') => (show w'.cell? ⟨w.heap.size, 1 + i, none⟩ = some (.int .u8 (b.getD i 0)) by rw [cell_of_row w' _ _ _ _ (0, 0) (hG.row RW)]; exact adrV_at (by omega)))
  have BY := Lib.hid (fun (i : Nat) (hi : i < 16) => getD_byte hy (k := i) (by omega))
  have FL := Lib.hid (fourT_len hl hy)
  obtain ⟨T, hT⟩ : ∃ T, T = textL false b := ⟨_, rfl⟩
  have HT := Lib.hid (show T = fourT b 4 by rw [hT]; rfl)
  have hdot := dot_str
  rw [← hT]
  generalize adrV false b = C at *
  clear hT RW hl hy hdot
  go_enter Tryd.func20, Tryd.ntmps20
  go_upto_region 1 with fail
  rw [← hW]
  clear hW
  go_wp2_with fail
  go_loopw [3, 4] (fun sv v wr => ∃ i : Nat, i ≤ 4 ∧ v = .int .i64 i ∧ sv = .string (strOfNums (fourT b i)) ∧ Gr W wr) (fun _ v _ => 4 - (intOf v).toNat)
  case atStart => exact ⟨0, by omega, rfl, rfl, Below.refl _ _⟩
  case round =>
    obtain ⟨i, hi, rfl, rfl, Bw⟩ := hrel
    have HB := Lib.hid Bw
    have FI := Lib.hid (FL.out i hi)
    by_cases hlt : i < 4
    · have hz : (i : Int) < 4 := by omega
      have hz16 : (i : Int) < 16 := by omega
      have cx := CL.out i (by omega) wr Bw
      obtain ⟨x0, x1⟩ := BY.out i (by omega)
      obtain ⟨n, hn⟩ : ∃ n, n = (b.getD i 0).toNat := ⟨_, rfl⟩
      have hx : b.getD i 0 = (n : Int) := by omega
      have HN := Lib.hid hn
      rw [hx] at cx
      have hn255 : n ≤ 255 := by omega
      have TI := Lib.hid (TN.out n hn255)
      have ew : IntKind.i64.wrap (n : Int) = (n : Int) := IntWalk.i64_in _ (by omega)
      have sz1 : (strOfNums (tenL n)).size ≤ n + 1 := by rw [strOfNums_size]; exact tenL_len n
      have sz0 : (strOfNums (fourT b i)).size ≤ 300 * i := by rw [strOfNums_size]; exact FI.out
      have HS := Lib.hid (show fourT b (i + 1) = (fourT b i ++ if i = 0 then [] else [46]) ++ tenL n by rw [HN.out]; rfl)
      clear Bw hn hx x0 x1
      generalize fourT b i = xs at *
      by_cases h0 : i = 0
      · subst h0
        have hz2 : (strOfNums xs).size + (strOfNums (tenL n)).size ≤ 9223372036854775807 := by omega
        have SA := Lib.hid (strOf_append xs (tenL n))
        generalize strOfNums xs = S0 at *
        generalize strOfNums (tenL n) = S1 at *
        clear sz0 sz1
        go_wp2_with (first
          | (go_at_call 35; (with_reducible refine (TI.out _).mono ?_); rintro e w1 ⟨rfl, B1⟩
             have B1 := Lib.hid B1))
        go_roundw
        case rel => exact ⟨1, by omega, by go_num, by rw [HS.out]; simp only [if_true, List.append_nil]; exact congrArg Value.string SA.out, HB.out.below B1.out⟩
        case measure => simp [intOf]
      · have h0z : (0 : Int) < (i : Int) := by omega
        have sd : ({ data := #[46] } : ByteArray).size = 1 := rfl
        have hz3 : (strOfNums xs).size + ({ data := #[46] } : ByteArray).size ≤ 9223372036854775807 := by rw [sd]; omega
        have SA := Lib.hid (show strOfNums xs ++ { data := #[46] } = strOfNums (xs ++ [46]) from strOf_append xs [46])
        have sz4 : (strOfNums (xs ++ [46])).size ≤ 300 * i + 1 := by rw [strOfNums_size, List.length_append]; have := strOfNums_size xs; simp; omega
        have hz2 : (strOfNums (xs ++ [46])).size + (strOfNums (tenL n)).size ≤ 9223372036854775807 := by omega
        have SB := Lib.hid (strOf_append (xs ++ [46]) (tenL n))
        have hsa := SA.out
        generalize strOfNums (xs ++ [46]) = S2 at *
        generalize strOfNums xs = S0 at *
        generalize strOfNums (tenL n) = S1 at *
        clear sz0 sz1 sz4
        go_wp2_with (first
          | (go_at_call 35; (with_reducible refine (TI.out _).mono ?_); rintro e w1 ⟨rfl, B1⟩
             have B1 := Lib.hid B1))
        go_roundw
        case rel => exact ⟨i + 1, by omega, by go_num, by rw [HS.out, if_neg h0, ← SB.out], HB.out.below B1.out⟩
        case measure => simp [intOf]; omega
    · have e : i = 4 := by omega
      subst e
      clear Bw
      go_wp2_with fail
      go_ret
      exact ⟨by rw [HT.out]; rfl, BW.out.trans (HB.out.mono BW.out.size)⟩
end Go.Proofs.YtmkekdmkefkfiaaDoor.adC

/-
  The document's addresses: what Text does of sixteen bytes; and in all.
-/
namespace Go.Proofs.YtmkekdmkefkfiaaDoor.adC
open Go.ChangeShapes Go.WideShapes Go.ChangeAt Go.RowKit
open Go.Proofs.YtmkekdmkefkfiaaDoor.memC Go.Proofs.YtmkekdmkefkfiaaDoor.genC Go.Proofs.YtmkekdmkefkfiaaDoor.butC Go.Proofs.YtmkekdmkefkfiaaDoor.freeC
set_option linter.unusedVariables false
def bsV (C : Array Value) (i m x y : Nat) : Nat → Value → World → Prop
  | 0, v, _ => v = .agg C
  | 1, v, _ => v = .int .i64 i
  | 2, v, _ => v = .int .i64 x
  | 3, v, _ => v = .agg C
  | 4, v, _ => v = .int .i64 m
  | 5, v, _ => v = .int .i64 y
  | 6, v, _ => v = .bool (decide (y < x))
  | _, _, _ => True
theorem bsV.keep (C : Array Value) (i m x y : Nat) (j : Nat) (v : Value) (w w' : World) (hb : Below w.heap.size w w') (h : bsV C i m x y j v w) : bsV C i m x y j v w' := by
  unfold bsV at h ⊢
  split at h <;> exact h
def bsT : List (Option Nat) := [none, none, none, none, none, none, none, none, none, none, none, none, none, none, none, none, none, none, none, none, none, none, none, none, none, none, none, none, none, none, none, none, some 0, some 1, some 2, some 3, some 4, some 5, some 6, none, none, none, none, none, none, none, none, none, none, none, none, none, none, none, none, none, none, none, none, none, none, none, none, none, none, none, none, none, none, none, none, none, none, none, none, none, none, none]
/-- the state of the last loop -/
structure TX (W : World) (b : List Int) (T : List Int) (i : Nat) (s : List Int) (wr : World) : Prop where
  bel : Gr W wr
  tot : prt b (gapN b) (8 - i) i s = T
  byte : ∀ x ∈ s, Byte x
  len : s.length ≤ 70000 * i
theorem prt_more {b : List Int} {best : Nat} (hb : best < 8 → 1 ≤ runN b best) : ∀ (f i : Nat) (s : List Int), 8 ≤ i + f → prt b best f i s = prt b best (8 - i) i s
  | 0, i, s, h => by rw [prt_end (by omega), prt_end (by omega)]
  | f + 1, i, s, h => by
    rcases Nat.lt_or_ge i 8 with h8 | h8
    · rw [show 8 - i = (8 - (i + 1)) + 1 by omega]
      by_cases hi : i = best
      · have h1 := hb (by omega)
        rw [← hi] at h1
        rw [prt_gap h8 hi, prt_gap h8 hi, prt_more hb f _ _ (by omega), ← prt_more hb (8 - (i + 1)) (i + runN b i) _ (by omega)]
      · rw [prt_one h8 hi, prt_one h8 hi, prt_more hb f _ _ (by omega)]
    · rw [prt_end h8, prt_end h8]
theorem gap_one {b : List Int} (h : gapN b < 8) : 1 ≤ runN b (gapN b) := by have := gap_run h; omega
theorem TX.end_ {W wr : World} {b T s : List Int} {i : Nat} (h : TX W b T i s wr) (hi : 8 ≤ i) : s = T := by
  have h1 := h.tot
  rwa [prt_end hi] at h1
theorem TX.gap {W wr : World} {b T s : List Int} {i : Nat} (h : TX W b T i s wr) (h8 : i < 8) (hi : i = gapN b) : TX W b T (i + runN b i) (s ++ [58, 58]) wr := by
  have h1 := h.tot
  have h2 := gap_one (b := b) (by omega)
  rw [← hi] at h2
  rw [show 8 - i = (8 - (i + 1)) + 1 by omega, prt_gap h8 hi, prt_more gap_one _ _ _ (by omega)] at h1
  refine ⟨h.bel, h1, fun x hx => ?_, ?_⟩
  · rcases List.mem_append.1 hx with h3 | h3
    · exact h.byte x h3
    · have : x = 58 := by simpa using h3
      subst this; unfold Byte; decide
  · have h3 := h.len
    rw [List.length_append]
    show s.length + 2 ≤ _
    omega
theorem colL_le (s : List Int) : (colL s).length ≤ 1 := by unfold colL; split <;> simp
theorem colL_byte (s : List Int) : ∀ x ∈ colL s, Byte x := by
  unfold colL
  split
  · simp
  · intro x hx
    rw [List.mem_singleton.1 hx]; unfold Byte; decide
theorem TX.one {W wr wr' : World} {b T s : List Int} {i : Nat} (h : TX W b T i s wr) (h8 : i < 8) (hi : i ≠ gapN b) (hg : gr b i < 65536) (hb : Below wr.heap.size wr wr') : TX W b T (i + 1) ((s ++ colL s) ++ hexL (gr b i)) wr' := by
  have h1 := h.tot
  rw [show 8 - i = (8 - (i + 1)) + 1 by omega, prt_one h8 hi] at h1
  refine ⟨h.bel.below hb, h1, fun x hx => ?_, ?_⟩
  · rcases List.mem_append.1 hx with h3 | h3
    · rcases List.mem_append.1 h3 with h4 | h4
      · exact h.byte x h4
      · exact colL_byte s x h4
    · exact hexL_byte _ x h3
  · have h3 := h.len
    have h4 := colL_le s
    have h5 := hexL_len (gr b i)
    rw [List.length_append, List.length_append]
    omega
set_option maxRecDepth 100000 in
set_option maxHeartbeats 2000000 in
theorem text_six (b : List Int) (w : World) (hl : b.length = 16) (hy : ∀ x ∈ b, Byte x) : Calls Tryd.prog 20 #[.agg (adrV true b)] w (Ret w (.string (strOfNums (textL true b)))) := by
  have RN := Lib.hid (fun (i : Nat) (hi : i ≤ 8) w' => run_any true b i w' hl hy hi)
  have GP := Lib.hid (fun (i : Nat) (hi : i < 8) w' => group_any true b i w' hl hy hi)
  have HX := Lib.hid (fun (n : Nat) (hn : n < 65536) w' => hex_any n (by omega) w')
  have GL := Lib.hid (fun (i : Nat) (hi : i < 8) => gr_lt hy hl hi)
  have U := Lib.hid (show (Tryd.prog.info? 24).map (·.size) = some (adrV true b).size by rw [addr_info, adrV_size hl])
  obtain ⟨W, hW⟩ : ∃ W, W = w.alloc (.cells (adrV true b) 24) := ⟨_, rfl⟩
  have RW : W.heap[w.heap.size]? = some (.cells (adrV true b) 24 (0, 0)) := by rw [hW]; exact heap_alloc_new _ _
  have HRW := Lib.hid RW
  have BW := Lib.hid (show Below w.heap.size w W by rw [hW]; exact alloc_below _ _)
  have k1 : W.cell? ⟨w.heap.size, 0, none⟩ = some (.bool true) := by rw [cell_of_row W _ 0 _ _ (0, 0) RW]; exact adrV_six _ _
  obtain ⟨T, hT⟩ : ∃ T, T = textL true b := ⟨_, rfl⟩
  have HT := Lib.hid (show prt b (gapN b) 8 0 [] = T by rw [hT]; rfl)
  rw [← hT]
  generalize adrV true b = C at *
  clear hT RW hl hy
  go_enter Tryd.func20, Tryd.ntmps20
  go_upto_region 1 with fail
  rw [← hW]
  clear hW
  go_wp2_with fail
  go_loopw [5, 6] (fun m v wr => ∃ i : Nat, i ≤ 8 ∧ v = .int .i64 i ∧ m = .int .i64 (bestT b i) ∧ Gr W wr) (fun _ v _ => 8 - (intOf v).toNat)
  case atStart => exact ⟨0, by omega, rfl, rfl, Below.refl _ _⟩
  case round =>
    obtain ⟨i, hi, rfl, rfl, Bw⟩ := hrel
    have HB := Lib.hid Bw
    have RR := Lib.hid (show wr.heap[w.heap.size]? = some (.cells C 24 (0, 0)) from Bw.row HRW.out)
    have hm := bestT_le b i
    by_cases hlt : i < 8
    · have hz : (i : Int) < 8 := by omega
      have R1 := Lib.hid (RN.out i hi)
      have R2 := Lib.hid (RN.out (bestT b i) (by omega))
      have HS := Lib.hid (show bestT b (i + 1) = if runN b (bestT b i) < runN b i then i else bestT b i from rfl)
      generalize bestT b i = m at *
      generalize runN b i = x at *
      generalize runN b m = y at *
      clear Bw k1
      go_upto_region 14 with fail
      refine with_act fun a0 ha0 => ?_
      have hl : bsT.length = a0.tmps.size := by rw [ha0]; rfl
      have k1 : a0.tmps[1]?.getD undef = .pointer (some ⟨w.heap.size, 0, none⟩) := by rw [ha0]; rfl
      have k5 : a0.tmps[5]?.getD undef = .int .i64 m := by rw [ha0]; rfl
      have k6 : a0.tmps[6]?.getD undef = .int .i64 i := by rw [ha0]; rfl
      refine wp_region_vals (by kernel_rfl) bsT (by kernel_rfl) (by kernel_rfl) hl (fun j => a0.tmps[32 + j]?.getD undef) (by rw [ha0]; rfl) (Gr wr) (bsV C i m x y) (gr_drew _) (bsV.keep _ _ _ _ _) ⟨?_, ?_, ?_, ?_, ?_, ?_, ?_, trivial⟩ ?_
      · refine step_plain [] (by kernel_rfl) rfl fun us w' hG hV => ?_
        have o1 := (frame_old2 (us := us) (a := a0) (show (bsT[1]?).join = none from rfl)).trans k1
        generalize frame bsT a0 us = fr at *
        exact load_ok 24 1 rfl w.heap.size o1 _ _ (0, 0) _ (hG.row RR.out) Tryd.underlying24 rfl U.out hG rfl
      · refine step_plain [] (by kernel_rfl) rfl fun us w' hG hV => ?_
        have o6 := (frame_old2 (us := us) (a := a0) (show (bsT[6]?).join = none from rfl)).trans k6
        generalize frame bsT a0 us = fr at *
        exact val_ok (v := .int .i64 i) (w' := w') (by go_simp) hG (Below.refl _ _) rfl
      · refine step_plain [0, 1] (by kernel_rfl) rfl fun us w' hG hV => ?_
        have e0 : us 0 = .agg C := hV 0 (by simp)
        have v0 := (frame_at2 (us := us) hl (show (bsT[32]?).join = some 0 from rfl)).trans e0
        have e1 : us 1 = .int .i64 i := hV 1 (by simp)
        have v1 := (frame_at2 (us := us) hl (show (bsT[33]?).join = some 1 from rfl)).trans e1
        generalize frame bsT a0 us = fr at *
        exact call_ok (f := 36) (args := #[.agg C, .int .i64 i]) (by go_simp) ((R1.out w').mono fun e w'' h => ⟨_, h.1, hG.below h.2, h.2, rfl⟩)
      · refine step_plain [] (by kernel_rfl) rfl fun us w' hG hV => ?_
        have o1 := (frame_old2 (us := us) (a := a0) (show (bsT[1]?).join = none from rfl)).trans k1
        generalize frame bsT a0 us = fr at *
        exact load_ok 24 1 rfl w.heap.size o1 _ _ (0, 0) _ (hG.row RR.out) Tryd.underlying24 rfl U.out hG rfl
      · refine step_plain [] (by kernel_rfl) rfl fun us w' hG hV => ?_
        have o5 := (frame_old2 (us := us) (a := a0) (show (bsT[5]?).join = none from rfl)).trans k5
        generalize frame bsT a0 us = fr at *
        exact val_ok (v := .int .i64 m) (w' := w') (by go_simp) hG (Below.refl _ _) rfl
      · refine step_plain [3, 4] (by kernel_rfl) rfl fun us w' hG hV => ?_
        have e3 : us 3 = .agg C := hV 3 (by simp)
        have v3 := (frame_at2 (us := us) hl (show (bsT[35]?).join = some 3 from rfl)).trans e3
        have e4 : us 4 = .int .i64 m := hV 4 (by simp)
        have v4 := (frame_at2 (us := us) hl (show (bsT[36]?).join = some 4 from rfl)).trans e4
        generalize frame bsT a0 us = fr at *
        exact call_ok (f := 36) (args := #[.agg C, .int .i64 m]) (by go_simp) ((R2.out w').mono fun e w'' h => ⟨_, h.1, hG.below h.2, h.2, rfl⟩)
      · refine step_plain [2, 5] (by kernel_rfl) rfl fun us w' hG hV => ?_
        have e2 : us 2 = .int .i64 x := hV 2 (by simp)
        have v2 := (frame_at2 (us := us) hl (show (bsT[34]?).join = some 2 from rfl)).trans e2
        have e5 : us 5 = .int .i64 y := hV 5 (by simp)
        have v5 := (frame_at2 (us := us) hl (show (bsT[37]?).join = some 5 from rfl)).trans e5
        have hdd : decide ((y : Int) < (x : Int)) = decide (y < x) := by rw [decide_eq_decide]; omega
        generalize frame bsT a0 us = fr at *
        exact val_ok (v := .bool (decide ((y : Int) < (x : Int)))) (w' := w') (by go_simp) hG (Below.refl _ _) (congrArg Value.bool hdd)
      · intro us w3 hG hV
        have e6 : us 6 = .bool (decide (y < x)) := hV 6 (by decide)
        have HG := Lib.hid (HB.out.below hG)
        subst ha0
        simp only [frame, bsT, fill]
        rw [e6]
        clear hV hl k1 k5 k6 hG e6
        by_cases hyx : y < x
        · rw [decide_eq_true hyx]
          have HS2 := Lib.hid (HS.out.trans (if_pos hyx))
          clear hyx
          go_wp2_with fail
          go_roundw
          case rel => exact ⟨i + 1, by omega, by go_num, by rw [HS2.out], HG.out⟩
          case measure => simp [intOf]; omega
        · rw [decide_eq_false hyx]
          have HS2 := Lib.hid (HS.out.trans (if_neg hyx))
          clear hyx
          go_wp2_with fail
          go_roundw
          case rel => exact ⟨i + 1, by omega, by go_num, by rw [HS2.out], HG.out⟩
          case measure => simp [intOf]; omega
    · have e : i = 8 := by omega
      subst e
      have R2 := Lib.hid (RN.out (bestT b 8) hm)
      have HGN := Lib.hid (show gapN b = if runN b (bestT b 8) < 2 then 8 else bestT b 8 from rfl)
      generalize bestT b 8 = m at *
      generalize runN b m = x at *
      clear Bw k1 hlt
      by_cases hx : x < 2
      · have GZ := Lib.hid (show (8 : Int) = (gapN b : Int) by rw [HGN.out, if_pos hx]; rfl)
        have hxz : decide ((x : Int) < 2) = true := decide_eq_true (by omega)
        clear hx HGN
        go_upto_region 18 with (first
          | (refine wpList_load_row rfl 24 (.tmp 1) rfl w.heap.size rfl _ _ _ _ RR.out Tryd.underlying24 rfl U.out ?_)
          | (go_at_call 36; (with_reducible refine (R2.out _).mono ?_); rintro e w3 ⟨rfl, B3⟩))
        have HT0 := Lib.hid (show TX W b T 0 [] w3 from ⟨HB.out.below B3, HT.out, by simp, by simp⟩)
        clear B3 hxz
        go_wp2_with fail
        go_loopw [3, 7] (fun sv v wr => ∃ (i : Nat) (s : List Int), v = .int .i64 i ∧ sv = .string (strOfNums s) ∧ i ≤ 8 ∧ TX W b T i s wr) (fun _ v _ => 8 - (intOf v).toNat)
        case atStart => exact ⟨0, [], rfl, rfl, by omega, HT0.out⟩
        case round =>
          obtain ⟨i, s, rfl, rfl, hi, KK⟩ := hrel
          have HK := Lib.hid KK
          have RR2 := Lib.hid (show wr.heap[w.heap.size]? = some (.cells C 24 (0, 0)) from KK.bel.row HRW.out)
          have sl : (strOfNums s).size ≤ 70000 * i := by rw [strOfNums_size]; exact KK.len
          clear KK
          by_cases hlt : i < 8
          · have hz : (i : Int) < 8 := by omega
            by_cases hg : i = gapN b
            · exfalso; have := GZ.out; omega
            · have hgz : ((i : Int) == 8) = false := by have := GZ.out; simp; omega
              have hgy : ¬ (i : Int) = 8 := by have := GZ.out; omega
              have G3 := Lib.hid (GP.out i hlt)
              have glt := GL.out i hlt
              have HON := Lib.hid (fun (wr' : World) (hb : Below wr.heap.size wr wr') => HK.out.one hlt hg glt hb)
              have h3 := hexL_len (gr b i)
              have X3 := Lib.hid (HX.out (gr b i) glt)
              have hs4 : (strOfNums (hexL (gr b i))).size ≤ 70000 := by rw [strOfNums_size]; omega
              have YB := Lib.hid HK.out.byte
              generalize hexL (gr b i) = H at *
              generalize gr b i = n at *
              clear hg h3
              rcases List.eq_nil_or_concat s with hs | ⟨t, c, hs⟩
              · have hn0 : (strOfNums s).toList = [] := (str_emp s).2 hs
                have hn1 : (strOfNums s).toList.isEmpty = true := by rw [hn0]; rfl
                have HC := Lib.hid (show colL s = [] by unfold colL; rw [if_pos (.inl hs)])
                have hz2 : (strOfNums s).size + (strOfNums H).size ≤ 9223372036854775807 := by omega
                have SA := Lib.hid (strOf_append s H)
                generalize strOfNums s = S0 at *
                generalize strOfNums H = S1 at *
                clear hs sl hs4
                go_wp2_with (first
                  | (refine wpList_load_row rfl 24 (.tmp 1) rfl w.heap.size rfl _ _ _ _ RR2.out Tryd.underlying24 rfl U.out ?_)
                  | (go_at_call 38; (with_reducible refine (G3.out _).mono ?_); rintro e w4 ⟨rfl, B4⟩
                     have B4 := Lib.hid B4)
                  | (go_at_call 37; (with_reducible refine (X3.out _).mono ?_); rintro e w5 ⟨rfl, B5⟩
                     have B5 := Lib.hid B5))
                go_roundw
                case rel =>
                  refine ⟨i + 1, _, by go_num, ?_, by omega, HON.out _ (B4.out.trans (B5.out.mono B4.out.size))⟩
                  rw [HC.out, List.append_nil]
                  exact congrArg Value.string SA.out
                case measure => simp [intOf]; omega
              · have hn0 : ¬ (strOfNums s).toList = [] := by
                  rw [str_emp, hs]; simp
                have hn1 : (strOfNums s).toList.isEmpty = false := by simpa using hn0
                have hsz : (strOfNums s).size = t.length + 1 := by rw [strOfNums_size, hs]; simp
                obtain ⟨k, hk⟩ : ∃ k, k = t.length := ⟨_, rfl⟩
                obtain ⟨L, hL⟩ : ∃ L, L = k + 1 := ⟨_, rfl⟩
                have hszL : (strOfNums s).size = L := by omega
                have hkz : (L : Int) - 1 = (k : Int) := by omega
                have IDX := Lib.hid (fun w => str_at (xs := s) YB.out (i := k) (by rw [hs]; simp; omega) (z := (k : Int)) rfl w)
                have hcv : s.getD k 0 = c := by rw [hs, hk]; simp [List.getD_eq_getElem?_getD]
                rw [hcv] at IDX
                have LC := Lib.hid (show colL s = if c = 58 then [] else [58] by
                  unfold colL
                  have h1 : s.getLast? = some c := by rw [hs]; simp
                  have h2 : s ≠ [] := by rw [hs]; simp
                  rw [h1]
                  by_cases hc : c = 58
                  · rw [if_pos (.inr (by rw [hc])), if_pos hc]
                  · rw [if_neg (fun h => h.elim h2 (fun h => hc (Option.some.inj h))), if_neg hc])
                have hL2 : L ≤ 70000 * i := by omega
                by_cases hc : c = 58
                · have HC := Lib.hid (LC.out.trans (if_pos hc))
                  subst hc
                  have hz2 : L + (strOfNums H).size ≤ 9223372036854775807 := by omega
                  have SA := Lib.hid (strOf_append s H)
                  generalize strOfNums s = S0 at *
                  generalize strOfNums H = S1 at *
                  clear hs sl hs4 hsz hk hL hcv LC
                  go_wp2_with (first
                    | (refine wpList_runG (by rfl) _ (index_run rfl rfl rfl (IDX.out _)) ?_)
                    | (refine wpList_load_row rfl 24 (.tmp 1) rfl w.heap.size rfl _ _ _ _ RR2.out Tryd.underlying24 rfl U.out ?_)
                    | (go_at_call 38; (with_reducible refine (G3.out _).mono ?_); rintro e w4 ⟨rfl, B4⟩
                       have B4 := Lib.hid B4)
                    | (go_at_call 37; (with_reducible refine (X3.out _).mono ?_); rintro e w5 ⟨rfl, B5⟩
                       have B5 := Lib.hid B5))
                  go_roundw
                  case rel =>
                    refine ⟨i + 1, _, by go_num, ?_, by omega, HON.out _ (B4.out.trans (B5.out.mono B4.out.size))⟩
                    rw [HC.out, List.append_nil]
                    exact congrArg Value.string SA.out
                  case measure => simp [intOf]; omega
                · have HC := Lib.hid (LC.out.trans (if_neg hc))
                  have hc1 : (c == 58) = false := by simpa using hc
                  have sd : ({ data := #[58] } : ByteArray).size = 1 := rfl
                  have hz3 : L + ({ data := #[58] } : ByteArray).size ≤ 9223372036854775807 := by rw [sd]; omega
                  have hsa : strOfNums s ++ { data := #[58] } = strOfNums (s ++ [58]) := strOf_append s [58]
                  have hs5 : (strOfNums (s ++ [58])).size = L + 1 := by rw [strOfNums_size, List.length_append, ← strOfNums_size s, hszL]; rfl
                  have hz2 : L + 1 + (strOfNums H).size ≤ 9223372036854775807 := by omega
                  have SB := Lib.hid (strOf_append (s ++ [58]) H)
                  generalize strOfNums (s ++ [58]) = S2 at *
                  generalize strOfNums s = S0 at *
                  generalize strOfNums H = S1 at *
                  clear hs sl hs4 hsz hk hL hcv LC
                  go_wp2_with (first
                    | (refine wpList_runG (by rfl) _ (index_run rfl rfl rfl (IDX.out _)) ?_)
                    | (refine wpList_load_row rfl 24 (.tmp 1) rfl w.heap.size rfl _ _ _ _ RR2.out Tryd.underlying24 rfl U.out ?_)
                    | (go_at_call 38; (with_reducible refine (G3.out _).mono ?_); rintro e w4 ⟨rfl, B4⟩
                       have B4 := Lib.hid B4)
                    | (go_at_call 37; (with_reducible refine (X3.out _).mono ?_); rintro e w5 ⟨rfl, B5⟩
                       have B5 := Lib.hid B5))
                  go_roundw
                  case rel =>
                    refine ⟨i + 1, _, by go_num, ?_, by omega, HON.out _ (B4.out.trans (B5.out.mono B4.out.size))⟩
                    rw [HC.out]
                    exact congrArg Value.string SB.out
                  case measure => simp [intOf]; omega
          · have HE := Lib.hid (HK.out.end_ (by omega))
            have BQ := Lib.hid (BW.out.trans (HK.out.bel.mono BW.out.size))
            have e : i = 8 := by omega
            subst e
            clear sl hlt
            go_wp2_with fail
            go_ret
            exact ⟨by rw [HE.out]; rfl, BQ.out⟩
      · have GZ := Lib.hid (show (m : Int) = (gapN b : Int) by rw [HGN.out, if_neg hx])
        have hxz : decide ((x : Int) < 2) = false := decide_eq_false (by omega)
        clear hx HGN
        go_upto_region 18 with (first
          | (refine wpList_load_row rfl 24 (.tmp 1) rfl w.heap.size rfl _ _ _ _ RR.out Tryd.underlying24 rfl U.out ?_)
          | (go_at_call 36; (with_reducible refine (R2.out _).mono ?_); rintro e w3 ⟨rfl, B3⟩))
        have HT0 := Lib.hid (show TX W b T 0 [] w3 from ⟨HB.out.below B3, HT.out, by simp, by simp⟩)
        clear B3 hxz
        go_wp2_with fail
        go_loopw [3, 7] (fun sv v wr => ∃ (i : Nat) (s : List Int), v = .int .i64 i ∧ sv = .string (strOfNums s) ∧ i ≤ 8 ∧ TX W b T i s wr) (fun _ v _ => 8 - (intOf v).toNat)
        case atStart => exact ⟨0, [], rfl, rfl, by omega, HT0.out⟩
        case round =>
          obtain ⟨i, s, rfl, rfl, hi, KK⟩ := hrel
          have HK := Lib.hid KK
          have RR2 := Lib.hid (show wr.heap[w.heap.size]? = some (.cells C 24 (0, 0)) from KK.bel.row HRW.out)
          have sl : (strOfNums s).size ≤ 70000 * i := by rw [strOfNums_size]; exact KK.len
          clear KK
          by_cases hlt : i < 8
          · have hz : (i : Int) < 8 := by omega
            by_cases hg : i = gapN b
            · have hmi : i = m := by have := GZ.out; omega
              subst hmi
              have R3 := Lib.hid (RN.out i hi)
              have h1 := gap_one (b := b) (by omega)
              rw [← hg] at h1
              have h2 := runN_le b i
              have HN := Lib.hid (HK.out.gap hlt hg)
              obtain ⟨r, hr⟩ : ∃ r, r = runN b i := ⟨_, rfl⟩
              rw [← hr] at R3 h1 h2 HN
              obtain ⟨q, hq⟩ : ∃ q, q = r - 1 := ⟨_, rfl⟩
              obtain ⟨j, hj⟩ : ∃ j, j = i + q := ⟨_, rfl⟩
              have hqz : (r : Int) - 1 = (q : Int) := by omega
              have hjz : (i : Int) + (q : Int) = (j : Int) := by omega
              have HJ := Lib.hid (show i + r = j + 1 by omega)
              have hj8 : j + 1 ≤ 8 := by omega
              have HN2 := Lib.hid (show TX W b T (j + 1) (s ++ [58, 58]) wr from HJ.out ▸ HN.out)
              have sd : ({ data := #[58, 58] } : ByteArray).size = 2 := rfl
              have hz3 : (strOfNums s).size + ({ data := #[58, 58] } : ByteArray).size ≤ 9223372036854775807 := by rw [sd]; omega
              have hsa : strOfNums s ++ { data := #[58, 58] } = strOfNums (s ++ [58, 58]) := strOf_append s [58, 58]
              obtain ⟨S2, hS2⟩ : ∃ S, S = strOfNums (s ++ [58, 58]) := ⟨_, rfl⟩
              rw [← hS2] at hsa
              have HSA := Lib.hid hS2
              clear hS2
              generalize strOfNums s = S0 at *
              clear hg hr hq hj sl
              go_wp2_with (first
                | (refine wpList_load_row rfl 24 (.tmp 1) rfl w.heap.size rfl _ _ _ _ RR2.out Tryd.underlying24 rfl U.out ?_)
                | (go_at_call 36; (with_reducible refine (R3.out _).mono ?_); rintro e w4 ⟨rfl, B4⟩
                   have B4 := Lib.hid B4))
              go_roundw
              case rel => exact ⟨j + 1, s ++ [58, 58], by go_num, by first | rfl | exact congrArg Value.string HSA.out, by have := hj8; omega, ⟨HN2.out.bel.below B4.out, HN2.out.tot, HN2.out.byte, HN2.out.len⟩⟩
              case measure => have := HJ.out; simp [intOf]; omega
            · have hgz : ((i : Int) == (m : Int)) = false := by have := GZ.out; simp; omega
              have hgy : ¬ (i : Int) = (m : Int) := by have := GZ.out; omega
              have G3 := Lib.hid (GP.out i hlt)
              have glt := GL.out i hlt
              have HON := Lib.hid (fun (wr' : World) (hb : Below wr.heap.size wr wr') => HK.out.one hlt hg glt hb)
              have h3 := hexL_len (gr b i)
              have X3 := Lib.hid (HX.out (gr b i) glt)
              have hs4 : (strOfNums (hexL (gr b i))).size ≤ 70000 := by rw [strOfNums_size]; omega
              have YB := Lib.hid HK.out.byte
              generalize hexL (gr b i) = H at *
              generalize gr b i = n at *
              clear hg h3
              rcases List.eq_nil_or_concat s with hs | ⟨t, c, hs⟩
              · have hn0 : (strOfNums s).toList = [] := (str_emp s).2 hs
                have hn1 : (strOfNums s).toList.isEmpty = true := by rw [hn0]; rfl
                have HC := Lib.hid (show colL s = [] by unfold colL; rw [if_pos (.inl hs)])
                have hz2 : (strOfNums s).size + (strOfNums H).size ≤ 9223372036854775807 := by omega
                have SA := Lib.hid (strOf_append s H)
                generalize strOfNums s = S0 at *
                generalize strOfNums H = S1 at *
                clear hs sl hs4
                go_wp2_with (first
                  | (refine wpList_load_row rfl 24 (.tmp 1) rfl w.heap.size rfl _ _ _ _ RR2.out Tryd.underlying24 rfl U.out ?_)
                  | (go_at_call 38; (with_reducible refine (G3.out _).mono ?_); rintro e w4 ⟨rfl, B4⟩
                     have B4 := Lib.hid B4)
                  | (go_at_call 37; (with_reducible refine (X3.out _).mono ?_); rintro e w5 ⟨rfl, B5⟩
                     have B5 := Lib.hid B5))
                go_roundw
                case rel =>
                  refine ⟨i + 1, _, by go_num, ?_, by omega, HON.out _ (B4.out.trans (B5.out.mono B4.out.size))⟩
                  rw [HC.out, List.append_nil]
                  exact congrArg Value.string SA.out
                case measure => simp [intOf]; omega
              · have hn0 : ¬ (strOfNums s).toList = [] := by
                  rw [str_emp, hs]; simp
                have hn1 : (strOfNums s).toList.isEmpty = false := by simpa using hn0
                have hsz : (strOfNums s).size = t.length + 1 := by rw [strOfNums_size, hs]; simp
                obtain ⟨k, hk⟩ : ∃ k, k = t.length := ⟨_, rfl⟩
                obtain ⟨L, hL⟩ : ∃ L, L = k + 1 := ⟨_, rfl⟩
                have hszL : (strOfNums s).size = L := by omega
                have hkz : (L : Int) - 1 = (k : Int) := by omega
                have IDX := Lib.hid (fun w => str_at (xs := s) YB.out (i := k) (by rw [hs]; simp; omega) (z := (k : Int)) rfl w)
                have hcv : s.getD k 0 = c := by rw [hs, hk]; simp [List.getD_eq_getElem?_getD]
                rw [hcv] at IDX
                have LC := Lib.hid (show colL s = if c = 58 then [] else [58] by
                  unfold colL
                  have h1 : s.getLast? = some c := by rw [hs]; simp
                  have h2 : s ≠ [] := by rw [hs]; simp
                  rw [h1]
                  by_cases hc : c = 58
                  · rw [if_pos (.inr (by rw [hc])), if_pos hc]
                  · rw [if_neg (fun h => h.elim h2 (fun h => hc (Option.some.inj h))), if_neg hc])
                have hL2 : L ≤ 70000 * i := by omega
                by_cases hc : c = 58
                · have HC := Lib.hid (LC.out.trans (if_pos hc))
                  subst hc
                  have hz2 : L + (strOfNums H).size ≤ 9223372036854775807 := by omega
                  have SA := Lib.hid (strOf_append s H)
                  generalize strOfNums s = S0 at *
                  generalize strOfNums H = S1 at *
                  clear hs sl hs4 hsz hk hL hcv LC
                  go_wp2_with (first
                    | (refine wpList_runG (by rfl) _ (index_run rfl rfl rfl (IDX.out _)) ?_)
                    | (refine wpList_load_row rfl 24 (.tmp 1) rfl w.heap.size rfl _ _ _ _ RR2.out Tryd.underlying24 rfl U.out ?_)
                    | (go_at_call 38; (with_reducible refine (G3.out _).mono ?_); rintro e w4 ⟨rfl, B4⟩
                       have B4 := Lib.hid B4)
                    | (go_at_call 37; (with_reducible refine (X3.out _).mono ?_); rintro e w5 ⟨rfl, B5⟩
                       have B5 := Lib.hid B5))
                  go_roundw
                  case rel =>
                    refine ⟨i + 1, _, by go_num, ?_, by omega, HON.out _ (B4.out.trans (B5.out.mono B4.out.size))⟩
                    rw [HC.out, List.append_nil]
                    exact congrArg Value.string SA.out
                  case measure => simp [intOf]; omega
                · have HC := Lib.hid (LC.out.trans (if_neg hc))
                  have hc1 : (c == 58) = false := by simpa using hc
                  have sd : ({ data := #[58] } : ByteArray).size = 1 := rfl
                  have hz3 : L + ({ data := #[58] } : ByteArray).size ≤ 9223372036854775807 := by rw [sd]; omega
                  have hsa : strOfNums s ++ { data := #[58] } = strOfNums (s ++ [58]) := strOf_append s [58]
                  have hs5 : (strOfNums (s ++ [58])).size = L + 1 := by rw [strOfNums_size, List.length_append, ← strOfNums_size s, hszL]; rfl
                  have hz2 : L + 1 + (strOfNums H).size ≤ 9223372036854775807 := by omega
                  have SB := Lib.hid (strOf_append (s ++ [58]) H)
                  generalize strOfNums (s ++ [58]) = S2 at *
                  generalize strOfNums s = S0 at *
                  generalize strOfNums H = S1 at *
                  clear hs sl hs4 hsz hk hL hcv LC
                  go_wp2_with (first
                    | (refine wpList_runG (by rfl) _ (index_run rfl rfl rfl (IDX.out _)) ?_)
                    | (refine wpList_load_row rfl 24 (.tmp 1) rfl w.heap.size rfl _ _ _ _ RR2.out Tryd.underlying24 rfl U.out ?_)
                    | (go_at_call 38; (with_reducible refine (G3.out _).mono ?_); rintro e w4 ⟨rfl, B4⟩
                       have B4 := Lib.hid B4)
                    | (go_at_call 37; (with_reducible refine (X3.out _).mono ?_); rintro e w5 ⟨rfl, B5⟩
                       have B5 := Lib.hid B5))
                  go_roundw
                  case rel =>
                    refine ⟨i + 1, _, by go_num, ?_, by omega, HON.out _ (B4.out.trans (B5.out.mono B4.out.size))⟩
                    rw [HC.out]
                    exact congrArg Value.string SB.out
                  case measure => simp [intOf]; omega
          · have HE := Lib.hid (HK.out.end_ (by omega))
            have BQ := Lib.hid (BW.out.trans (HK.out.bel.mono BW.out.size))
            have e : i = 8 := by omega
            subst e
            clear sl hlt
            go_wp2_with fail
            go_ret
            exact ⟨by rw [HE.out]; rfl, BQ.out⟩
theorem text_any (s : Bool) (b : List Int) (w : World) (hl : b.length = 16) (hy : ∀ x ∈ b, Byte x) : Calls Tryd.prog 20 #[.agg (adrV s b)] w (Ret w (.string (strOfNums (textL s b)))) := by
  cases s
  · exact text_four b w hl hy
  · exact text_six b w hl hy
end Go.Proofs.YtmkekdmkefkfiaaDoor.adC
