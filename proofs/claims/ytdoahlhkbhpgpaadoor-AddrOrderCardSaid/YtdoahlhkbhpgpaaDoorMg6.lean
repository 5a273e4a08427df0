/-
  1 texts of a proof, joined.
-/
import Derived.Test.YtdoahlhkbhpgpaaDoorMg5
import Derived.Lib.Split
import Derived.Lib.ParseIntB
import Derived.Lib.ItoaNum

namespace Go.Proofs.YtdoahlhkbhpgpaaDoor.adC
open Go.ChangeShapes Go.WideShapes Go.ChangeAt Go.RowKit
open Go.Proofs.YtdoahlhkbhpgpaaDoor.memC Go.Proofs.YtdoahlhkbhpgpaaDoor.genC
open Go.Proofs.YtdoahlhkbhpgpaaDoor.hexM (strL strL_of of_strL strL_get nib nib_bd)
set_option linter.unusedVariables false
section
variable {α : Type} [DecidableEq α]
/-- a list cut at the first k places at most -/
def spn (c : α) : Nat → List α → List (List α)
  | 0, l => [l]
  | k + 1, l => if c ∈ l then l.takeWhile (fun x => decide (x ≠ c)) :: spn c k ((l.dropWhile (fun x => decide (x ≠ c))).drop 1) else [l]
end
theorem take_while {α : Type} (p : α → Bool) (l : List α) : l.take (l.takeWhile p).length = l.takeWhile p := by
  have h := List.takeWhile_append_dropWhile (p := p) (l := l)
  have h2 : (l.takeWhile p ++ l.dropWhile p).take (l.takeWhile p).length = l.takeWhile p := List.take_left
  rwa [h] at h2
theorem drop_while {α : Type} (p : α → Bool) (l : List α) : l.drop (l.takeWhile p).length = l.dropWhile p := by
  have h := List.takeWhile_append_dropWhile (p := p) (l := l)
  have h2 : (l.takeWhile p ++ l.dropWhile p).drop (l.takeWhile p).length = l.dropWhile p := List.drop_left
  rwa [h] at h2
theorem index_one (l : List UInt8) (b : UInt8) : Lib.index l [b] = if b ∈ l then ((l.takeWhile (fun x => decide (x ≠ b))).length : Int) else -1 := by
  induction l with
  | nil => rfl
  | cons x l ih =>
    unfold Lib.index
    by_cases h : x = b
    · subst h
      simp
    · have h1 : ¬ b = x := fun e => h e.symm
      have e1 : [b].isPrefixOf (x :: l) = false := by simp [List.isPrefixOf, h1]
      rw [e1, ih]
      by_cases hm : b ∈ l
      · have hm2 : b ∈ x :: l := List.mem_cons_of_mem _ hm
        rw [if_neg (by simp), if_pos hm, if_pos hm2, if_neg (by simp)]
        simp [h]
      · have hm2 : b ∉ x :: l := by simp [h1, hm]
        rw [if_neg (by simp), if_neg hm, if_neg hm2]
        simp
theorem splitK_one (b : UInt8) : ∀ k l, Lib.splitK [b] 0 k l = spn b k l
  | 0, l => rfl
  | k + 1, l => by
    unfold Lib.splitK spn
    rw [index_one]
    by_cases hm : b ∈ l
    · rw [if_pos hm, if_pos hm, if_neg (by simp)]
      simp only [Int.toNat_natCast, Nat.add_zero]
      rw [take_while, splitK_one b k, ← List.drop_drop, drop_while]
      rfl
    · rw [if_neg hm, if_neg hm]; rfl
theorem spn_map {α β : Type} [DecidableEq α] [DecidableEq β] (f : α → β) (hf : ∀ a b, f a = f b → a = b) (c : α) : ∀ k l, spn (f c) k (l.map f) = (spn c k l).map (List.map f)
  | 0, l => rfl
  | k + 1, l => by
    have e : ((fun x : β => decide (x ≠ f c)) ∘ f) = fun x => decide (x ≠ c) := by
      funext x
      by_cases h : x = c
      · subst h; simp
      · have : ¬ f x = f c := fun h' => h (hf _ _ h')
        simp [h, this]
    unfold spn
    have hm : f c ∈ l.map f ↔ c ∈ l := by
      constructor
      · intro h
        obtain ⟨a, ha, he⟩ := List.mem_map.1 h
        rw [← hf _ _ he]; exact ha
      · exact List.mem_map_of_mem
    by_cases h : c ∈ l
    · rw [if_pos h, if_pos (hm.2 h), List.takeWhile_map, List.dropWhile_map, e, List.map_cons, ← spn_map f hf c k, List.map_drop]
    · rw [if_neg h, if_neg (fun h' => h (hm.1 h'))]; rfl
/-- the texts of the library's cut -/
theorem split_strs (b : UInt8) (k : Nat) (xs : List Int) (hy : ∀ x ∈ xs, Byte x) :
    (Lib.splitB ⟨#[b]⟩ 0 k (strOfNums xs)).map strL = spn (b.toNat : Int) k xs := by
  have h1 := Lib.splitB_data ⟨#[b]⟩ 0 k (strOfNums xs)
  have h2 : (Lib.splitB ⟨#[b]⟩ 0 k (strOfNums xs)).map strL = ((Lib.splitB ⟨#[b]⟩ 0 k (strOfNums xs)).map (·.data.toList)).map (List.map fun c : UInt8 => (c.toNat : Int)) := by
    rw [List.map_map]; rfl
  rw [h2, h1, splitK_one]
  have h3 := spn_map (fun c : UInt8 => (c.toNat : Int)) (fun a b h => UInt8.toNat_inj.1 (Int.ofNat.inj h)) b k (strOfNums xs).data.toList
  rw [← h3]
  congr 1
  exact strL_of xs hy
theorem spl_acc (c : Int) : ∀ xs acc cur, spl c xs acc cur = acc ++ spl c xs [] cur
  | [], acc, cur => by simp [spl]
  | x :: r, acc, cur => by
    unfold spl
    split
    · rw [spl_acc c r (acc ++ [cur]) [], spl_acc c r ([] ++ [cur]) []]; simp
    · exact spl_acc c r acc (cur ++ [x])
theorem spl_cur (c : Int) : ∀ xs cur, spl c xs [] cur = if c ∈ xs then (cur ++ xs.takeWhile (fun x => decide (x ≠ c))) :: splL c ((xs.dropWhile (fun x => decide (x ≠ c))).drop 1) else [cur ++ xs]
  | [], cur => by simp [spl]
  | x :: r, cur => by
    unfold spl
    by_cases h : x = c
    · subst h
      rw [if_pos rfl, if_pos (by simp), spl_acc]
      simp [splL]
    · have h1 : ¬ c = x := fun e => h e.symm
      rw [if_neg h, spl_cur c r (cur ++ [x])]
      by_cases hm : c ∈ r
      · rw [if_pos hm, if_pos (List.mem_cons_of_mem _ hm)]
        simp [h]
      · rw [if_neg hm, if_neg (by simp [h1, hm])]
        simp
theorem splL_is (c : Int) (xs : List Int) : splL c xs = if c ∈ xs then xs.takeWhile (fun x => decide (x ≠ c)) :: splL c ((xs.dropWhile (fun x => decide (x ≠ c))).drop 1) else [xs] := by
  have h := spl_cur c xs []
  simpa [splL] using h
theorem spn_few (c : Int) : ∀ k xs, (splL c xs).length ≤ k + 1 → spn c k xs = splL c xs
  | 0, xs, h => by
    rw [splL_is] at h ⊢
    by_cases hm : c ∈ xs
    · rw [if_pos hm] at h
      have := splL_pos c ((xs.dropWhile (fun x => decide (x ≠ c))).drop 1)
      simp only [List.length_cons] at h; omega
    · rw [if_neg hm]; rfl
  | k + 1, xs, h => by
    rw [splL_is] at h ⊢
    unfold spn
    by_cases hm : c ∈ xs
    · rw [if_pos hm] at h
      rw [if_pos hm, if_pos hm, spn_few c k _ (by simp only [List.length_cons] at h; omega)]
    · rw [if_neg hm, if_neg hm]
theorem spn_sub (c : Int) : ∀ k xs, ∀ l ∈ spn c k xs, l.length ≤ xs.length ∧ ∀ x ∈ l, x ∈ xs
  | 0, xs, l, h => by rw [List.mem_singleton.1 h]; exact ⟨Nat.le_refl _, fun x hx => hx⟩
  | k + 1, xs, l, h => by
    unfold spn at h
    by_cases hm : c ∈ xs
    · rw [if_pos hm] at h
      have htw := List.takeWhile_append_dropWhile (p := fun x => decide (x ≠ c)) (l := xs)
      have hsz := congrArg List.length htw
      rw [List.length_append] at hsz
      rcases List.mem_cons.1 h with rfl | h
      · exact ⟨by omega, fun x hx => by rw [← htw]; exact List.mem_append_left _ hx⟩
      · obtain ⟨h1, h2⟩ := spn_sub c k _ l h
        rw [List.length_drop] at h1
        exact ⟨by omega, fun x hx => by rw [← htw]; exact List.mem_append_right _ (List.mem_of_mem_drop (h2 x hx))⟩
    · rw [if_neg hm] at h
      rw [List.mem_singleton.1 h]; exact ⟨Nat.le_refl _, fun x hx => hx⟩
theorem spn_len (c : Int) : ∀ k xs, (spn c k xs).length ≤ k + 1 ∧ 1 ≤ (spn c k xs).length
  | 0, xs => by simp [spn]
  | k + 1, xs => by
    unfold spn
    split
    · have := spn_len c k ((xs.dropWhile (fun x => decide (x ≠ c))).drop 1)
      simp only [List.length_cons]; omega
    · simp
/-- a number's digits tell it -/
def val10 (xs : List Int) : Int := xs.foldl (fun a x => a * 10 + (x - 48)) 0
theorem val10_one (xs : List Int) (x : Int) : val10 (xs ++ [x]) = val10 xs * 10 + (x - 48) := by simp [val10]
theorem tenL_snoc {n : Nat} (h : ¬ n < 10) : tenL n = tenL (n / 10) ++ [48 + ((n % 10 : Nat) : Int)] := by
  rw [tenL_high h, tenL_low (n := n % 10) (by omega)]
theorem val10_ten (n : Nat) : val10 (tenL n) = n := by
  induction n using Nat.strongRecOn with
  | ind n ih =>
    by_cases h : n < 10
    · rw [tenL_low h]; simp [val10]; omega
    · rw [tenL_snoc h, val10_one, ih (n / 10) (by omega)]; omega
theorem tenL_inj {n m : Nat} (h : tenL n = tenL m) : n = m := by
  have h1 := val10_ten n
  rw [h, val10_ten m] at h1; omega
theorem bofF_found {xs : List Int} {n : Nat} (h : tenL n = xs) : ∀ f m, m ≤ n → n < f + m → bofF xs f m = n
  | 0, m, h1, h2 => by omega
  | f + 1, m, h1, h2 => by
    unfold bofF
    by_cases he : tenL m = xs
    · rw [if_pos he, tenL_inj (he.trans h.symm)]
    · rw [if_neg he]
      have : m ≠ n := fun e => he (e ▸ h)
      exact bofF_found h f (m + 1) (by omega) (by omega)
theorem bofL_found {xs : List Int} {n : Nat} (h : tenL n = xs) (hn : n < 256) : bofL xs = n := bofF_found h 256 0 (by omega) (by omega)
theorem bofF_is (xs : List Int) : ∀ f m, 0 ≤ bofF xs f m → ∃ n : Nat, n < f + m ∧ bofF xs f m = n ∧ tenL n = xs
  | 0, m, h => by unfold bofF at h; omega
  | f + 1, m, h => by
    unfold bofF at h ⊢
    by_cases he : tenL m = xs
    · rw [if_pos he] at h ⊢; exact ⟨m, by omega, rfl, he⟩
    · rw [if_neg he] at h ⊢
      obtain ⟨n, h1, h2, h3⟩ := bofF_is xs f (m + 1) h
      exact ⟨n, by omega, h2, h3⟩
theorem bofL_is {xs : List Int} (h : 0 ≤ bofL xs) : ∃ n : Nat, n < 256 ∧ bofL xs = n ∧ tenL n = xs := bofF_is xs 256 0 h
theorem bofL_not {xs : List Int} (h : ∀ n : Nat, n < 256 → tenL n ≠ xs) : bofL xs < 0 := by
  rcases Int.lt_or_le (bofL xs) 0 with h1 | h1
  · exact h1
  · obtain ⟨n, h2, h3, h4⟩ := bofL_is h1
    exact absurd h4 (h n h2)
theorem ten1 {n : Nat} (h : n < 10) : tenL n = [48 + (n : Int)] := tenL_low h
theorem ten2 {n : Nat} (h : ¬ n < 10) (h1 : n < 100) : tenL n = [48 + ((n / 10 : Nat) : Int), 48 + ((n % 10 : Nat) : Int)] := by
  rw [tenL_snoc h, ten1 (n := n / 10) (by omega)]; rfl
theorem ten3 {n : Nat} (h : ¬ n < 100) (h1 : n < 1000) : tenL n = [48 + ((n / 100 : Nat) : Int), 48 + ((n / 10 % 10 : Nat) : Int), 48 + ((n % 10 : Nat) : Int)] := by
  rw [tenL_snoc (by omega), ten2 (n := n / 10) (by omega) (by omega), show n / 10 / 10 = n / 100 by omega]; rfl
theorem ten_forms {n : Nat} (hn : n < 256) : (n < 10 ∧ tenL n = [48 + (n : Int)]) ∨ (10 ≤ n ∧ n < 100 ∧ tenL n = [48 + ((n / 10 : Nat) : Int), 48 + ((n % 10 : Nat) : Int)]) ∨ (100 ≤ n ∧ tenL n = [48 + ((n / 100 : Nat) : Int), 48 + ((n / 10 % 10 : Nat) : Int), 48 + ((n % 10 : Nat) : Int)]) := by
  by_cases h : n < 10
  · exact .inl ⟨h, ten1 h⟩
  · by_cases h2 : n < 100
    · exact .inr (.inl ⟨by omega, h2, ten2 h h2⟩)
    · exact .inr (.inr ⟨by omega, ten3 h2 (by omega)⟩)
theorem bof_long {xs : List Int} (h : 3 < xs.length) : bofL xs < 0 := bofL_not fun n hn e => by
  rcases ten_forms hn with ⟨_, h1⟩ | ⟨_, _, h1⟩ | ⟨_, h1⟩ <;> rw [← e, h1] at h <;> simp at h
theorem bof_zero {xs : List Int} (h : 1 < xs.length) (h0 : xs.getD 0 0 = 48) : bofL xs < 0 := bofL_not fun n hn e => by
  rcases ten_forms hn with ⟨_, h1⟩ | ⟨_, _, h1⟩ | ⟨_, h1⟩ <;> rw [← e, h1] at h h0 <;> simp at h h0 <;> omega
def toB (x : Int) : UInt8 := UInt8.ofNat x.toNat
theorem toB_nat {x : Int} (h : Byte x) : ((toB x).toNat : Int) = x := by
  unfold Byte at h
  unfold toB
  rw [UInt8.toNat_ofNat']
  omega
theorem str_data (xs : List Int) : (strOfNums xs).data.toList = xs.map toB := by
  rw [strOfNums_data]; rfl
/-- what a text of at most three digits without a zero ahead is as a number -/
theorem num_end0 {q} (hq : Lib.parseUintB 8 [] = q) {xs : List Int} (hy : ∀ x ∈ xs, Byte x) (h3 : xs.length ≤ 3) (hz : 1 < xs.length → xs.getD 0 0 ≠ 48) :
    (∃ u : Nat, Lib.parseUintB 8 (xs.map toB) = .ok u ∧ bofL xs = u) ∨ (Lib.parseUintB 8 (xs.map toB) = q ∧ bofL xs < 0) ∨ (Lib.parseUintB 8 (xs.map toB) = .range ∧ bofL xs < 0) := by
  have key : ∀ c : Int, Byte c → (48 ≤ (toB c).toNat ∧ (toB c).toNat ≤ 57 ↔ 48 ≤ c ∧ c ≤ 57) := fun c hc => by
    have := toB_nat hc; omega
  match xs, hy, h3, hz with
  | [], _, _, _ =>
    refine .inr (.inl ⟨hq, bofL_not fun n hn e => ?_⟩)
    rcases ten_forms hn with ⟨_, h1⟩ | ⟨_, _, h1⟩ | ⟨_, h1⟩ <;> rw [h1] at e <;> cases e
  | [a], hy, _, _ =>
    have ha := hy a (by simp)
    have na := toB_nat ha
    by_cases da : 48 ≤ a ∧ a ≤ 57
    · left
      refine ⟨(toB a).toNat - 48, ?_, ?_⟩
      · unfold Lib.parseUintB
        rw [if_neg (by simp)]
        simp only [List.map_cons, List.map_nil, Lib.parseUintM]
        rw [if_pos ((key a ha).2 da), if_neg (by omega), if_neg (by omega)]
        simp
      · refine bofL_found ?_ (by omega)
        rw [ten1 (by omega)]
        congr 1; omega
    · right; left
      refine ⟨?_, bofL_not fun n hn e => ?_⟩
      · unfold Lib.parseUintB
        rw [if_neg (by simp)]
        simp only [List.map_cons, List.map_nil, Lib.parseUintM]
        rw [if_neg (fun h => da ((key a ha).1 h))]
        exact hq
      · rcases ten_forms hn with ⟨_, h1⟩ | ⟨_, _, h1⟩ | ⟨_, h1⟩ <;> rw [h1] at e <;> simp at e <;> omega
  | [a, b], hy, _, hz =>
    have ha := hy a (by simp)
    have hb := hy b (by simp)
    have na := toB_nat ha
    have nb := toB_nat hb
    have z0 : a ≠ 48 := by simpa using hz (by simp)
    by_cases da : 48 ≤ a ∧ a ≤ 57
    · by_cases db : 48 ≤ b ∧ b ≤ 57
      · left
        refine ⟨((toB a).toNat - 48) * 10 + ((toB b).toNat - 48), ?_, ?_⟩
        · unfold Lib.parseUintB
          rw [if_neg (by simp)]
          simp only [List.map_cons, List.map_nil, Lib.parseUintM]
          rw [if_pos ((key a ha).2 da), if_neg (by omega), if_neg (by omega), if_pos ((key b hb).2 db), if_neg (by omega), if_neg (by omega)]
          simp
        · refine bofL_found ?_ (by omega)
          rw [ten2 (by omega) (by omega)]
          congr 1
          · omega
          · congr 1; omega
      · right; left
        refine ⟨?_, bofL_not fun n hn e => ?_⟩
        · unfold Lib.parseUintB
          rw [if_neg (by simp)]
          simp only [List.map_cons, List.map_nil, Lib.parseUintM]
          rw [if_pos ((key a ha).2 da), if_neg (by omega), if_neg (by omega), if_neg (fun h => db ((key b hb).1 h))]
          exact hq
        · rcases ten_forms hn with ⟨_, h1⟩ | ⟨_, _, h1⟩ | ⟨_, h1⟩ <;> rw [h1] at e <;> simp at e <;> omega
    · right; left
      refine ⟨?_, bofL_not fun n hn e => ?_⟩
      · unfold Lib.parseUintB
        rw [if_neg (by simp)]
        simp only [List.map_cons, List.map_nil, Lib.parseUintM]
        rw [if_neg (fun h => da ((key a ha).1 h))]
        exact hq
      · rcases ten_forms hn with ⟨_, h1⟩ | ⟨_, _, h1⟩ | ⟨_, h1⟩ <;> rw [h1] at e <;> simp at e <;> omega
  | [a, b, c], hy, _, hz =>
    have ha := hy a (by simp)
    have hb := hy b (by simp)
    have hc := hy c (by simp)
    have na := toB_nat ha
    have nb := toB_nat hb
    have nc := toB_nat hc
    have z0 : a ≠ 48 := by simpa using hz (by simp)
    by_cases da : 48 ≤ a ∧ a ≤ 57
    · by_cases db : 48 ≤ b ∧ b ≤ 57
      · by_cases dc : 48 ≤ c ∧ c ≤ 57
        · by_cases hr : 255 < (((toB a).toNat - 48) * 10 + ((toB b).toNat - 48)) * 10 + ((toB c).toNat - 48)
          · right; right
            refine ⟨?_, bofL_not fun n hn e => ?_⟩
            · unfold Lib.parseUintB
              rw [if_neg (by simp)]
              simp only [List.map_cons, List.map_nil, Lib.parseUintM]
              rw [if_pos ((key a ha).2 da), if_neg (by omega), if_neg (by omega), if_pos ((key b hb).2 db), if_neg (by omega), if_neg (by omega), if_pos ((key c hc).2 dc), if_neg (by omega), if_pos (by omega)]
            · rcases ten_forms hn with ⟨_, h1⟩ | ⟨_, _, h1⟩ | ⟨_, h1⟩ <;> rw [h1] at e <;> simp at e <;> omega
          · left
            refine ⟨(((toB a).toNat - 48) * 10 + ((toB b).toNat - 48)) * 10 + ((toB c).toNat - 48), ?_, ?_⟩
            · unfold Lib.parseUintB
              rw [if_neg (by simp)]
              simp only [List.map_cons, List.map_nil, Lib.parseUintM]
              rw [if_pos ((key a ha).2 da), if_neg (by omega), if_neg (by omega), if_pos ((key b hb).2 db), if_neg (by omega), if_neg (by omega), if_pos ((key c hc).2 dc), if_neg (by omega), if_neg (by omega)]
              simp
            · refine bofL_found ?_ (by omega)
              rw [ten3 (by omega) (by omega)]
              congr 1
              · omega
              · congr 1
                · omega
                · congr 1; omega
        · right; left
          refine ⟨?_, bofL_not fun n hn e => ?_⟩
          · unfold Lib.parseUintB
            rw [if_neg (by simp)]
            simp only [List.map_cons, List.map_nil, Lib.parseUintM]
            rw [if_pos ((key a ha).2 da), if_neg (by omega), if_neg (by omega), if_pos ((key b hb).2 db), if_neg (by omega), if_neg (by omega), if_neg (fun h => dc ((key c hc).1 h))]
            exact hq
          · rcases ten_forms hn with ⟨_, h1⟩ | ⟨_, _, h1⟩ | ⟨_, h1⟩ <;> rw [h1] at e <;> simp at e <;> omega
      · right; left
        refine ⟨?_, bofL_not fun n hn e => ?_⟩
        · unfold Lib.parseUintB
          rw [if_neg (by simp)]
          simp only [List.map_cons, List.map_nil, Lib.parseUintM]
          rw [if_pos ((key a ha).2 da), if_neg (by omega), if_neg (by omega), if_neg (fun h => db ((key b hb).1 h))]
          exact hq
        · rcases ten_forms hn with ⟨_, h1⟩ | ⟨_, _, h1⟩ | ⟨_, h1⟩ <;> rw [h1] at e <;> simp at e <;> omega
    · right; left
      refine ⟨?_, bofL_not fun n hn e => ?_⟩
      · unfold Lib.parseUintB
        rw [if_neg (by simp)]
        simp only [List.map_cons, List.map_nil, Lib.parseUintM]
        rw [if_neg (fun h => da ((key a ha).1 h))]
        exact hq
      · rcases ten_forms hn with ⟨_, h1⟩ | ⟨_, _, h1⟩ | ⟨_, h1⟩ <;> rw [h1] at e <;> simp at e <;> omega
  | _ :: _ :: _ :: _ :: _, _, h3, _ => simp at h3
/-- the library's digits -/
theorem dec_ten (n : Nat) : (⟨(Lib.decDigits n).toArray⟩ : ByteArray) = strOfNums (tenL n) := by
  have key : Lib.decDigits n = (tenL n).map toB := by
    induction n using Nat.strongRecOn with
    | ind n ih =>
      rw [Lib.decDigits]
      by_cases h : n < 10
      · rw [dif_pos h, tenL_low h]
        simp only [List.map_cons, List.map_nil, toB]
        rw [show (48 + (n : Int)).toNat = 48 + n by omega]
      · rw [dif_neg h, tenL_snoc h, ih (n / 10) (by omega), List.map_append]
        simp only [List.map_cons, List.map_nil, toB]
        rw [show (48 + ((n % 10 : Nat) : Int)).toNat = 48 + n % 10 by omega]
  apply ByteArray.ext
  rw [key]
  rfl
/-- the same: what is not a number is read as no text at all is -/
theorem num_end {xs : List Int} (hy : ∀ x ∈ xs, Byte x) (h3 : xs.length ≤ 3) (hz : 1 < xs.length → xs.getD 0 0 ≠ 48) :
    (∃ u : Nat, Lib.parseUintB 8 (xs.map toB) = .ok u ∧ bofL xs = u) ∨ (Lib.parseUintB 8 (xs.map toB) = Lib.parseUintB 8 [] ∧ bofL xs < 0) ∨ (Lib.parseUintB 8 (xs.map toB) = .range ∧ bofL xs < 0) := num_end0 rfl hy h3 hz
end Go.Proofs.YtdoahlhkbhpgpaaDoor.adC
