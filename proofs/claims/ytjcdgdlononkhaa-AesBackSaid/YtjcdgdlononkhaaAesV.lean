/-
  The walk of AesBack.
-/
import Derived.Test.YtjcdgdlononkhaaAesU
namespace Go.Proofs.Ytjcdgdlononkhaa.aesC
open Go.ChangeShapes Go.WideShapes Go.ChangeAt Go.RowKit
open Go.Proofs.Ytjcdgdlononkhaa.memC Go.Proofs.Ytjcdgdlononkhaa.genC Go.Proofs.Ytjcdgdlononkhaa.aesM Go.Proofs.Ytjcdgdlononkhaa.freeC
set_option linter.unusedVariables false
/-- '==' of two arrays of bytes, number by number -/
theorem run_each {P : Program} (w : World) (d : Nat) (e : TypeId) (K : IntKind) (xs ys : Array Value) (f g : Nat → Int) (he : P.underlying e = some (.int K)) :
    ∀ is : List Nat, (∀ j ∈ is, xs[j]? = some (.int K (f j)) ∧ ys[j]? = some (.int K (g j))) → (Op.eqItems (d + 1) e 1 xs ys is).run P w = .ok (is.all fun j => f j == g j) w
  | [], _ => by simp [Op.eqItems]
  | j :: is, h => by
    obtain ⟨hx, hy⟩ := h j (by simp)
    have hagg : (isAgg e).run P w = .ok false w := by
      unfold isAgg
      rw [Sem.run_bind, run_underlying he w]
      rfl
    have hp : (part e xs (j * 1)).run P w = .ok (.int K (f j)) w := by
      rw [Nat.mul_one]
      simp [part, Sem.run_bind, hagg, hx]
    have hp2 : (part e ys (j * 1)).run P w = .ok (.int K (g j)) w := by
      rw [Nat.mul_one]
      simp [part, Sem.run_bind, hagg, hy]
    have ih := run_each w d e K xs ys f g he is fun i hi => h i (by simp [hi])
    have hq := run_equalIn_int (P := P) w d e K K (f j) (g j) he
    by_cases hfg : f j = g j
    · have hb : (f j == g j) = true := beq_iff_eq.2 hfg
      simp only [Op.eqItems, Sem.run_bind, hp, hp2, Result.andThen_ok, hq, hb, Bool.not_true, Bool.false_eq_true, if_false, ih, List.all_cons, Bool.true_and]
    · have hb : (f j == g j) = false := beq_eq_false_iff_ne.2 hfg
      simp only [Op.eqItems, Sem.run_bind, hp, hp2, Result.andThen_ok, hq, hb, Bool.not_false, if_true, Sem.run_pure, List.all_cons, Bool.false_and]
theorem eq_dec {xs ys : List Nat} (hx : xs.length = 16) (hy : ys.length = 16) (w : World) : (Op.equalIn 10000 22 (.agg (vec xs)) (.agg (vec ys))).run Try.prog w = .ok (decide (xs = ys)) w := by
  obtain ⟨i0, hi0, hz0, hz1, hz2⟩ := info_parts byte_inf
  rw [show (10000 : Nat) = 9998 + 1 + 1 from rfl, run_equalIn_array w _ (vec xs) (vec ys) Try.underlying22 hi0, show Try.prog.cellsOf 5 = 1 by kernel_rfl,
    run_each w _ _ .u8 (vec xs) (vec ys) (fun j => ((xs.getD j 0 : Nat) : Int)) (fun j => ((ys.getD j 0 : Nat) : Int)) rfl _ fun j hj => ⟨vec_at (by rw [hx]; exact List.mem_range.1 hj), vec_at (by rw [hy]; exact List.mem_range.1 hj)⟩]
  congr 1
  by_cases h : xs = ys
  · subst h
    simp
  · rw [decide_eq_false h]
    refine Bool.eq_false_iff.2 fun h2 => h ?_
    apply List.ext_getElem?
    intro j
    by_cases hj : j < 16
    · have := List.all_eq_true.1 h2 j (List.mem_range.2 hj)
      have h3 : xs.getD j 0 = ys.getD j 0 := Int.ofNat_inj.1 (beq_iff_eq.1 this)
      rw [getD_eq (by rw [hx]; exact hj), getD_eq (by rw [hy]; exact hj), h3]
    · rw [List.getElem?_eq_none (by omega), List.getElem?_eq_none (by omega)]
/-- the boxes of the arguments, and the key -/
structure KG (w0 : World) (g7 : Nat) (k a b : List Nat) (w : World) : Prop where
  bk : Bl 22 w w0.heap.size k
  ba : Bl 22 w (w0.heap.size + 1) a
  bb : Bl 22 w (w0.heap.size + 1 + 1) b
  k7 : Bl 24 w g7 k
  l7 : w0.heap.size + 1 + 1 < g7
  bel : Below w0.heap.size w0 w
theorem KG.below {w0 w w' : World} {g7 : Nat} {k a b : List Nat} (h : KG w0 g7 k a b w) (B : Below w.heap.size w w') : KG w0 g7 k a b w' := ⟨h.bk.below B h.bk.lt, h.ba.below B h.ba.lt, h.bb.below B h.bb.lt, h.k7.below B h.k7.lt, h.l7, h.bel.trans (B.mono h.bel.size)⟩
theorem KG.row {w0 w : World} {g7 g : Nat} {k a b : List Nat} (h : KG w0 g7 k a b w) (hg : g7 < g) (cs : Array Value) : KG w0 g7 k a b (w.setRow g cs) := by
  have h7 := h.l7
  exact ⟨h.bk.row_other (by omega) _, h.ba.row_other (by omega) _, h.bb.row_other (by omega) _, h.k7.row_other (by omega) _, h7, below_setRow h.bel (by omega) _⟩
def tabU : List (Option Nat) := [none, none, none, none, none, none, none, none, some 6, some 7, none, none, some 0, some 1, some 2, some 3, some 4, some 5, none, none, none, none, none, none, none, none, none, none, none, none, none, none, none, none, none]
/-- what holds while x and y are made -/
structure JX (w0 : World) (g7 : Nat) (k a b : List Nat) (K A B X Y Z : Array Value) (m : Nat → Bool) (us : Nat → Value) (w : World) : Prop where
  g : KG w0 g7 k a b w
  v0 : m 0 = true → us 0 = .agg K
  v1 : m 1 = true → us 1 = .agg A
  v2 : m 2 = true → us 2 = .agg X
  v3 : m 3 = true → us 3 = .agg K
  v4 : m 4 = true → us 4 = .agg B
  v5 : m 5 = true → us 5 = .agg Y
  v6 : m 6 = true → ∃ g, us 6 = .pointer (some ⟨g, 0, none⟩) ∧ g7 < g ∧ w.heap[g]? = some (.cells (if m 8 then X else Z) 22 (0, 0))
  v7 : m 7 = true → ∃ g, us 7 = .pointer (some ⟨g, 0, none⟩) ∧ g7 < g ∧ w.heap[g]? = some (.cells (if m 9 then Y else Z) 22 (0, 0))
  ne : m 6 = true → m 7 = true → us 6 ≠ us 7
  c8 : m 8 = true → m 6 = true
  c9 : m 9 = true → m 7 = true
theorem row_lt {w : World} {g : Nat} {o : Obj} (h : w.heap[g]? = some o) : g < w.heap.size := by
  rcases Nat.lt_or_ge g w.heap.size with h1 | h1
  · exact h1
  · rw [Array.getElem?_eq_none h1] at h; cases h
theorem ptr_ne {g g' : Nat} (h : g ≠ g') : (Value.pointer (some ⟨g, 0, none⟩)) ≠ .pointer (some ⟨g', 0, none⟩) := by
  intro e; injection e with e; injection e with e; injection e with e; exact h e
section
variable {w0 w w' : World} {g7 : Nat} {k a b : List Nat} {K A B X Y Z : Array Value} {m : Nat → Bool} {us : Nat → Value}
/-- a value has come up -/
theorem JX.val (h : JX w0 g7 k a b K A B X Y Z m us w) (i : Nat) (hi : i < 6) (v : Value) (hv : v = (match i with | 0 => .agg K | 1 => .agg A | 2 => .agg X | 3 => .agg K | 4 => .agg B | _ => .agg Y)) (hb : Below w.heap.size w w') :
    JX w0 g7 k a b K A B X Y Z (upd m i true) (upd us i v) w' := by
  have h6 : upd m i true 6 = m 6 := upd_other _ _ (by omega)
  have h7 : upd m i true 7 = m 7 := upd_other _ _ (by omega)
  have h8 : upd m i true 8 = m 8 := upd_other _ _ (by omega)
  have h9 : upd m i true 9 = m 9 := upd_other _ _ (by omega)
  have u6 : upd us i v 6 = us 6 := upd_other _ _ (by omega)
  have u7 : upd us i v 7 = us 7 := upd_other _ _ (by omega)
  have hval : ∀ j x, (m j = true → us j = x) → (j = i → v = x) → upd m i true j = true → upd us i v j = x := by
    intro j x h1 h2 h3
    by_cases e : j = i
    · subst e; rw [upd_same]; exact h2 rfl
    · rw [upd_other _ _ e]; rw [upd_other _ _ e] at h3; exact h1 h3
  refine ⟨h.g.below hb, hval 0 _ h.v0 ?_, hval 1 _ h.v1 ?_, hval 2 _ h.v2 ?_, hval 3 _ h.v3 ?_, hval 4 _ h.v4 ?_, hval 5 _ h.v5 ?_, ?_, ?_, ?_, ?_, ?_⟩
  · rintro rfl; exact hv
  · rintro rfl; exact hv
  · rintro rfl; exact hv
  · rintro rfl; exact hv
  · rintro rfl; exact hv
  · rintro rfl; exact hv
  · rw [h6, u6, h8]
    intro hm
    obtain ⟨g, e1, e2, e4⟩ := h.v6 hm
    exact ⟨g, e1, e2, (hb.block g (row_lt e4)).trans e4⟩
  · rw [h7, u7, h9]
    intro hm
    obtain ⟨g, e1, e2, e4⟩ := h.v7 hm
    exact ⟨g, e1, e2, (hb.block g (row_lt e4)).trans e4⟩
  · rw [h6, h7, u6, u7]; exact h.ne
  · rw [h8, h6]; exact h.c8
  · rw [h9, h7]; exact h.c9
/-- x's variable is made -/
theorem JX.x (h : JX w0 g7 k a b K A B X Y Z m us w) (hm : m 6 = false) :
    JX w0 g7 k a b K A B X Y Z (upd m 6 true) (upd us 6 (.pointer (some ⟨w.heap.size, 0, none⟩))) (w.alloc (.cells Z 22)) := by
  have h8 : m 8 = false := by cases e : m 8 with | false => rfl | true => rw [h.c8 e] at hm; cases hm
  have hb := alloc_below w (.cells Z 22)
  refine ⟨h.g.below hb, h.v0, h.v1, h.v2, h.v3, h.v4, h.v5, ?_, ?_, ?_, ?_, h.c9⟩
  · intro _
    refine ⟨w.heap.size, rfl, h.g.k7.lt, ?_⟩
    show (w.alloc (.cells Z 22)).heap[w.heap.size]? = some (.cells (if m 8 = true then X else Z) 22 (0, 0))
    rw [h8]; exact heap_alloc_new w _
  · intro h7
    obtain ⟨g, e1, e2, e4⟩ := h.v7 h7
    exact ⟨g, e1, e2, (hb.block g (row_lt e4)).trans e4⟩
  · intro _ h7
    obtain ⟨g, e1, e2, e4⟩ := h.v7 h7
    show Value.pointer (some ⟨w.heap.size, 0, none⟩) ≠ us 7
    rw [e1]
    exact ptr_ne (by have := row_lt e4; omega)
  · intro _; rfl
/-- y's variable is made -/
theorem JX.y (h : JX w0 g7 k a b K A B X Y Z m us w) (hm : m 7 = false) :
    JX w0 g7 k a b K A B X Y Z (upd m 7 true) (upd us 7 (.pointer (some ⟨w.heap.size, 0, none⟩))) (w.alloc (.cells Z 22)) := by
  have h9 : m 9 = false := by cases e : m 9 with | false => rfl | true => rw [h.c9 e] at hm; cases hm
  have hb := alloc_below w (.cells Z 22)
  refine ⟨h.g.below hb, h.v0, h.v1, h.v2, h.v3, h.v4, h.v5, ?_, ?_, ?_, h.c8, ?_⟩
  · intro h6
    obtain ⟨g, e1, e2, e4⟩ := h.v6 h6
    exact ⟨g, e1, e2, (hb.block g (row_lt e4)).trans e4⟩
  · intro _
    refine ⟨w.heap.size, rfl, h.g.k7.lt, ?_⟩
    show (w.alloc (.cells Z 22)).heap[w.heap.size]? = some (.cells (if m 9 = true then Y else Z) 22 (0, 0))
    rw [h9]; exact heap_alloc_new w _
  · intro h6 _
    obtain ⟨g, e1, e2, e4⟩ := h.v6 h6
    show us 6 ≠ Value.pointer (some ⟨w.heap.size, 0, none⟩)
    rw [e1]
    exact ptr_ne (by have := row_lt e4; omega)
  · intro _; rfl
/-- x is stored -/
theorem JX.sx (h : JX w0 g7 k a b K A B X Y Z m us w) (g : Nat) (h6 : m 6 = true) (hg : us 6 = .pointer (some ⟨g, 0, none⟩)) : JX w0 g7 k a b K A B X Y Z (upd m 8 true) (upd us 8 undef) (w.setRow g X) := by
  obtain ⟨g', e1, e2, e4⟩ := h.v6 h6
  rw [hg] at e1
  obtain rfl : g = g' := by injection e1 with e; injection e with e; injection e
  refine ⟨h.g.row e2 _, h.v0, h.v1, h.v2, h.v3, h.v4, h.v5, ?_, ?_, h.ne, fun _ => h6, h.c9⟩
  · intro _
    exact ⟨g, hg, e2, setRow_heap _ _ _ _ _ _ e4⟩
  · intro h7
    obtain ⟨y, f1, f2, f4⟩ := h.v7 h7
    have hne : y ≠ g := by rintro rfl; exact h.ne h6 h7 (by rw [hg, f1])
    exact ⟨y, f1, f2, by rw [setRow_other _ _ _ _ hne]; exact f4⟩
/-- y is stored -/
theorem JX.sy (h : JX w0 g7 k a b K A B X Y Z m us w) (g : Nat) (h7 : m 7 = true) (hg : us 7 = .pointer (some ⟨g, 0, none⟩)) : JX w0 g7 k a b K A B X Y Z (upd m 9 true) (upd us 9 undef) (w.setRow g Y) := by
  obtain ⟨g', e1, e2, e4⟩ := h.v7 h7
  rw [hg] at e1
  obtain rfl : g = g' := by injection e1 with e; injection e with e; injection e
  refine ⟨h.g.row e2 _, h.v0, h.v1, h.v2, h.v3, h.v4, h.v5, ?_, ?_, h.ne, h.c8, fun _ => h7⟩
  · intro h6
    obtain ⟨y, f1, f2, f4⟩ := h.v6 h6
    have hne : y ≠ g := by rintro rfl; exact h.ne h6 h7 (by rw [hg, f1])
    exact ⟨y, f1, f2, by rw [setRow_other _ _ _ _ hne]; exact f4⟩
  · intro _
    exact ⟨g, hg, e2, setRow_heap _ _ _ _ _ _ e4⟩
end
/-- x and y stand -/
structure VG (w0 : World) (g7 gx gy : Nat) (k a b' x' y' : List Nat) (w : World) : Prop where
  b : KG w0 g7 k a b' w
  x : Bl 22 w gx x'
  y : Bl 22 w gy y'
theorem VG.below {w0 w w' : World} {g7 gx gy : Nat} {k a b x y : List Nat} (h : VG w0 g7 gx gy k a b x y w) (B : Below w.heap.size w w') : VG w0 g7 gx gy k a b x y w' := ⟨h.b.below B, h.x.below B h.x.lt, h.y.below B h.y.lt⟩
def tabV : List (Option Nat) := [none, none, none, none, none, none, some 17, none, none, none, none, none, none, none, none, none, none, none, some 0, some 1, some 2, some 3, some 4, some 5, some 6, some 7, some 8, some 9, some 10, some 11, some 12, some 13, some 14, some 15, some 16]
def VV (q : Bool) (K A B X Y : Array Value) : Nat → Value → World → Prop
  | 0, v, _ => v = .agg K
  | 1, v, _ => v = .agg X
  | 2, v, _ => v = .agg A
  | 3, v, _ => v = .agg A
  | 4, v, _ => v = .bool true
  | 5, v, _ => v = .bool true
  | 6, v, _ => v = .agg X
  | 7, v, _ => v = .agg Y
  | 8, v, _ => v = .bool q
  | 9, v, _ => v = .agg A
  | 10, v, _ => v = .agg B
  | 11, v, _ => v = .bool q
  | 12, v, _ => v = .bool true
  | 13, v, _ => v = .bool true
  | 14, v, _ => v = .bool true
  | 15, v, _ => v = .bool true
  | 16, v, _ => v = .bool true
  | 17, v, _ => v = .bool true
  | _, _, _ => True
theorem VV.keep (q : Bool) (K A B X Y : Array Value) (i : Nat) (v : Value) (w w' : World) (hb : Below w.heap.size w w') (h : VV q K A B X Y i v w) : VV q K A B X Y i v w' := by
  unfold VV at h ⊢
  split at h <;> exact h
/-- what is encrypted to one is one -/
theorem encL_inj {k a b : List Nat} (h : encL k a = encL k b) (w : World) (hk : k.length = 16) (yk : BY k) (ha : a.length = 16) (ya : BY a) (hb : b.length = 16) (yb : BY b) : a = b := by
  have step : ∀ j, j ≤ 10 → rS k a (10 - j) = rS k b (10 - j) := by
    intro j
    induction j with
    | zero => intro _; exact h
    | succ j ih =>
      intro hj
      have h1 := ih (by omega)
      obtain ⟨n, hn⟩ : ∃ n, n = 10 - (j + 1) := ⟨_, rfl⟩
      rw [show 10 - j = n + 1 by omega, rS_step k a (by omega), rS_step k b (by omega)] at h1
      rw [← hn]
      have h2 := congrArg (fun z => xorL z (rk k (n + 1))) h1
      simp only [xorL_twice (yR_len (shL_len _) _)] at h2
      have h3 : shL (rS k a n) = shL (rS k b n) := by
        unfold yR at h2
        split at h2
        · have hm : ∀ S : List Nat, S.length = 16 → BY S → ∀ j0, j0 < 16 → S.getD j0 0 = tms ((mixL S).getD j0 0) 14 ^^^ tms ((mixL S).getD (4 * (j0 / 4) + (j0 + 1) % 4) 0) 11 ^^^ tms ((mixL S).getD (4 * (j0 / 4) + (j0 + 2) % 4) 0) 13 ^^^ tms ((mixL S).getD (4 * (j0 / 4) + (j0 + 3) % 4) 0) 9 :=
            fun S _ hS j0 hj0 => (back_at hS hj0 rfl rfl rfl).symm
          apply List.ext_getElem?
          intro j0
          by_cases hj0 : j0 < 16
          · rw [getD_eq (by rw [shL_len]; exact hj0), getD_eq (by rw [shL_len]; exact hj0), hm _ (shL_len _) (shL_by _) j0 hj0, hm _ (shL_len _) (shL_by _) j0 hj0, h2]
          · rw [List.getElem?_eq_none (by rw [shL_len]; omega), List.getElem?_eq_none (by rw [shL_len]; omega)]
        · exact h2
      apply List.ext_getElem?
      intro p
      by_cases hp : p < 16
      · rw [getD_eq (by rw [rS_len]; exact hp), getD_eq (by rw [rS_len]; exact hp)]
        obtain ⟨i, hi, hip⟩ : ∃ i, i < 16 ∧ (i + i % 4 * 4) % 16 = p := by
          have : ∀ p, p < 16 → ∃ i, i < 16 ∧ (i + i % 4 * 4) % 16 = p := by decide
          exact this p hp
        have h4 : (shL (rS k a n)).getD i 0 = box ((rS k a n).getD ((i + i % 4 * 4) % 16) 0) := getD_map hi
        have h5 : (shL (rS k b n)).getD i 0 = box ((rS k b n).getD ((i + i % 4 * 4) % 16) 0) := getD_map hi
        rw [h3, h5, hip] at h4
        rw [box_inj ((rS_by yk hk ya n).at p) ((rS_by yk hk yb n).at p) h4.symm]
      · rw [List.getElem?_eq_none (by rw [rS_len]; omega), List.getElem?_eq_none (by rw [rS_len]; omega)]
  have h0 := step 10 (Nat.le_refl _)
  have h1 : xorL a (rk k 0) = xorL b (rk k 0) := h0
  have h2 := congrArg (fun z => xorL z (rk k 0)) h1
  simp only [xorL_twice ha, xorL_twice hb] at h2
  exact h2
set_option maxRecDepth 100000 in
set_option maxHeartbeats 1000000 in
theorem aesback_walk (k a b : List Nat) (w : World) (hk : k.length = 16) (yk : BY k) (ha : a.length = 16) (ya : BY a) (hb : b.length = 16) (yb : BY b) :
    Calls Try.prog 6 #[.agg (vec k), .agg (vec a), .agg (vec b)] w (AliveRet w) := by
  obtain ⟨K, hK⟩ : ∃ K, K = vec k := ⟨_, rfl⟩
  obtain ⟨A, hA⟩ : ∃ A, A = vec a := ⟨_, rfl⟩
  obtain ⟨B, hB⟩ : ∃ B, B = vec b := ⟨_, rfl⟩
  obtain ⟨X, hX⟩ : ∃ X, X = vec (encL k a) := ⟨_, rfl⟩
  obtain ⟨Y, hY⟩ : ∃ Y, Y = vec (encL k b) := ⟨_, rfl⟩
  obtain ⟨Z, hZ⟩ : ∃ Z, Z = vec (zs 16) := ⟨_, rfl⟩
  obtain ⟨q, hq⟩ : ∃ q, q = decide (a = b) := ⟨_, rfl⟩
  have hzv := zero16
  rw [← hZ] at hzv
  have hzk := zeroK
  rw [← hZ] at hzk
  have CN := Lib.hid (fun w => new_any k w hk)
  have CA := Lib.hid (fun w => encrypt_any k a w hk yk ha ya)
  have CB := Lib.hid (fun w => encrypt_any k b w hk yk hb yb)
  have CD := Lib.hid (fun w => (show Calls Try.prog 19 #[.agg (vec k), .agg (vec (encL k a))] w (Ret w (.agg (vec a))) from refdecrypt_any k a w hk yk ha ya))
  have hqx : decide (encL k a = encL k b) = q := by
    rw [hq]
    by_cases h : a = b
    · subst h; simp
    · rw [decide_eq_false h, decide_eq_false fun h2 => h (encL_inj h2 w hk yk ha ya hb yb)]
  have HEX := Lib.hid (show ∀ w, (Op.equalIn 10000 22 (.agg X) (.agg Y)).run Try.prog w = .ok q w from fun w => by rw [hX, hY, ← hqx]; exact eq_dec (encL_len _ _) (encL_len _ _) w)
  have HEB := Lib.hid (show ∀ w, (Op.equalIn 10000 22 (.agg A) (.agg B)).run Try.prog w = .ok q w from fun w => by rw [hA, hB, hq]; exact eq_dec ha hb w)
  have HEA := Lib.hid (show ∀ w, (Op.equalIn 10000 22 (.agg A) (.agg A)).run Try.prog w = .ok true w from fun w => by rw [hA]; exact eq16 ha w)
  rw [← hK] at CN
  rw [← hK, ← hA, ← hX] at CA CD
  rw [← hK, ← hB, ← hY] at CB
  have UK := Lib.hid (show (Try.prog.info? 22).map (·.size) = some K.size by rw [hK]; exact vec_info hk)
  have UK7 := Lib.hid (show (Try.prog.info? 24).map (·.size) = some K.size by rw [key_info, hK, vec_size, hk])
  have UA := Lib.hid (show (Try.prog.info? 22).map (·.size) = some A.size by rw [hA]; exact vec_info ha)
  have UB := Lib.hid (show (Try.prog.info? 22).map (·.size) = some B.size by rw [hB]; exact vec_info hb)
  have UX := Lib.hid (show (Try.prog.info? 22).map (·.size) = some X.size by rw [hX]; exact vec_info (encL_len _ _))
  have UY := Lib.hid (show (Try.prog.info? 22).map (·.size) = some Y.size by rw [hY]; exact vec_info (encL_len _ _))
  have ZK := Lib.hid (show Z.size = K.size by rw [hZ, hK, vec_size, vec_size, hk, zs_len])
  have ZX := Lib.hid (show Z.size = X.size by rw [hZ, hX, vec_size, vec_size, encL_len, zs_len])
  have ZY := Lib.hid (show Z.size = Y.size by rw [hZ, hY, vec_size, vec_size, encL_len, zs_len])
  have OK := Lib.hid (show K.all (·.oneCell') = true by rw [hK]; exact vec_one _)
  have OX := Lib.hid (show X.all (·.oneCell') = true by rw [hX]; exact vec_one _)
  have OY := Lib.hid (show Y.all (·.oneCell') = true by rw [hY]; exact vec_one _)
  have HK := Lib.hid hK.symm
  have HA := Lib.hid hA.symm
  have HB := Lib.hid hB.symm
  have HX := Lib.hid hX.symm
  have HY := Lib.hid hY.symm
  have e1 : (w.alloc (.cells K 22)).heap.size = w.heap.size + 1 := alloc_size _ _
  have e2 : ((w.alloc (.cells K 22)).alloc (.cells A 22)).heap.size = w.heap.size + 1 + 1 := by rw [alloc_size, e1]
  obtain ⟨W, hW⟩ : ∃ W, W = ((w.alloc (.cells K 22)).alloc (.cells A 22)).alloc (.cells B 22) := ⟨_, rfl⟩
  have eW : W.heap.size = w.heap.size + 1 + 1 + 1 := by rw [hW, alloc_size, e2]
  have b0 := Lib.hid (show Bl 22 W w.heap.size k by rw [hW, hK]; exact ((Bl.new w _ k).alloc _).alloc _)
  have b1 := Lib.hid (show Bl 22 W (w.heap.size + 1) a by rw [hW, hA, ← e1]; exact (Bl.new _ _ a).alloc _)
  have b2 := Lib.hid (show Bl 22 W (w.heap.size + 1 + 1) b by rw [hW, hB, ← e2]; exact Bl.new _ _ _)
  have BW := Lib.hid (show Below w.heap.size w W by rw [hW]; exact (((Below.refl _ _).alloc (Nat.le_refl _) _).alloc (by simp) _).alloc (by simp; omega) _)
  have EW := Lib.hid eW
  have RK := Lib.hid (show W.heap[w.heap.size]? = some (.cells K 22 (0, 0)) by rw [hK]; exact b0.out.row)
  rw [← hK, ← hA, ← hB]
  clear hK hA hB hX hY hZ hq hqx e1 e2 eW hk yk ha ya hb yb
  go_enter Try.func6, Try.ntmps6
  go_upto_region 1 with fail
  rw [← hW]
  clear hW
  go_upto_region 2 with (first
    | (refine wpList_load_row rfl 22 (.tmp 3) rfl w.heap.size rfl _ _ _ _ RK.out Try.underlying22 rfl UK.out ?_)
    | (go_at_call 8; (with_reducible refine (CN.out _).mono ?_); rintro e w1 ⟨rfl, B1⟩)
    | (refine wpList_store_row rfl 24 (.tmp 7) (.tmp 11) rfl w1.heap.size K rfl rfl _ _ (heap_alloc_new _ _) UK7.out ZK.out OK.out ?_))
  rw [World.setRow_alloc_new]
  have hs := B1.size
  rw [EW.out] at hs
  have hKG : KG w w1.heap.size k a b (w1.alloc (.cells K 24)) := by
    refine ⟨(b0.out.below B1 b0.out.lt).alloc _, (b1.out.below B1 b1.out.lt).alloc _, (b2.out.below B1 b2.out.lt).alloc _, ?_, by omega, (BW.out.trans (B1.mono BW.out.size)).alloc (by omega) _⟩
    rw [← HK.out]; exact Bl.new w1 _ _
  generalize w1.alloc (.cells K 24) = w2 at *
  generalize w1.heap.size = g7 at *
  have HKG := Lib.hid hKG
  clear hKG B1 hs b0 b1 b2 BW EW RK CN UK7 ZK OK hzk
  refine with_act fun a0 ha0 => ?_
  have hl : tabU.length = a0.tmps.size := by rw [ha0]; rfl
  have k4 : a0.tmps[4]?.getD undef = .pointer (some ⟨w.heap.size + 1, 0, none⟩) := by rw [ha0]; rfl
  have k5 : a0.tmps[5]?.getD undef = .pointer (some ⟨w.heap.size + 1 + 1, 0, none⟩) := by rw [ha0]; rfl
  have k7 : a0.tmps[7]?.getD undef = .pointer (some ⟨g7, 0, none⟩) := by rw [ha0]; rfl
  have UK7 := Lib.hid (show (Try.prog.info? 24).map (·.size) = some K.size by rw [key_info, ← b16_info, UK.out])
  refine wp_region_J (by kernel_rfl) tabU (by kernel_rfl) (by kernel_rfl) hl (fun i => undef) (by rw [ha0]; rfl) (JX w g7 k a b K A B X Y Z) ?_ ⟨?_, ?_, ?_, ?_, ?_, ?_, ?_, ?_, ?_, ?_, trivial⟩ ?_
  · refine ⟨⟨HKG.out.bk.heap rfl, HKG.out.ba.heap rfl, HKG.out.bb.heap rfl, HKG.out.k7.heap rfl, HKG.out.l7, HKG.out.bel.drew⟩, ?_, ?_, ?_, ?_, ?_, ?_, ?_, ?_, ?_, ?_, ?_⟩
    all_goals (intro h; cases h)
  · refine stepJ [] (by kernel_rfl) rfl fun m us w' hJ hmi hd => ?_
    have o7 := (frame_old2 (us := us) (a := a0) (show (tabU[7]?).join = none from rfl)).trans k7
    have hg := hJ.g.k7.row
    rw [HK.out] at hg
    generalize frame tabU a0 us = fr at *
    exact load_J 24 7 rfl g7 o7 _ K (0, 0) _ hg Try.underlying24 rfl UK7.out (hJ.val 0 (by omega) _ rfl (Below.refl _ _))
  · refine stepJ [] (by kernel_rfl) rfl fun m us w' hJ hmi hd => ?_
    have o4 := (frame_old2 (us := us) (a := a0) (show (tabU[4]?).join = none from rfl)).trans k4
    have hg := hJ.g.ba.row
    rw [HA.out] at hg
    generalize frame tabU a0 us = fr at *
    exact load_J 22 4 rfl (w.heap.size + 1) o4 _ A (0, 0) _ hg Try.underlying22 rfl UA.out (hJ.val 1 (by omega) _ rfl (Below.refl _ _))
  · refine stepJ [0, 1] (by kernel_rfl) rfl fun m us w' hJ hmi hd => ?_
    have v0 := (frame_at2 (us := us) hl (show (tabU[12]?).join = some 0 from rfl)).trans (hJ.v0 (hd 0 (by simp)))
    have v1 := (frame_at2 (us := us) hl (show (tabU[13]?).join = some 1 from rfl)).trans (hJ.v1 (hd 1 (by simp)))
    generalize frame tabU a0 us = fr at *
    exact call_J (f := 9) (args := #[.agg K, .agg A]) (by go_simp) ((CA.out w').mono fun e w'' h => ⟨_, h.1, hJ.val 2 (by omega) _ rfl h.2⟩)
  · refine stepJ [] (by kernel_rfl) rfl fun m us w' hJ hmi hd => ?_
    have o7 := (frame_old2 (us := us) (a := a0) (show (tabU[7]?).join = none from rfl)).trans k7
    have hg := hJ.g.k7.row
    rw [HK.out] at hg
    generalize frame tabU a0 us = fr at *
    exact load_J 24 7 rfl g7 o7 _ K (0, 0) _ hg Try.underlying24 rfl UK7.out (hJ.val 3 (by omega) _ rfl (Below.refl _ _))
  · refine stepJ [] (by kernel_rfl) rfl fun m us w' hJ hmi hd => ?_
    have o5 := (frame_old2 (us := us) (a := a0) (show (tabU[5]?).join = none from rfl)).trans k5
    have hg := hJ.g.bb.row
    rw [HB.out] at hg
    generalize frame tabU a0 us = fr at *
    exact load_J 22 5 rfl (w.heap.size + 1 + 1) o5 _ B (0, 0) _ hg Try.underlying22 rfl UB.out (hJ.val 4 (by omega) _ rfl (Below.refl _ _))
  · refine stepJ [3, 4] (by kernel_rfl) rfl fun m us w' hJ hmi hd => ?_
    have v3 := (frame_at2 (us := us) hl (show (tabU[15]?).join = some 3 from rfl)).trans (hJ.v3 (hd 3 (by simp)))
    have v4 := (frame_at2 (us := us) hl (show (tabU[16]?).join = some 4 from rfl)).trans (hJ.v4 (hd 4 (by simp)))
    generalize frame tabU a0 us = fr at *
    exact call_J (f := 9) (args := #[.agg K, .agg B]) (by go_simp) ((CB.out w').mono fun e w'' h => ⟨_, h.1, hJ.val 5 (by omega) _ rfl h.2⟩)
  · refine stepJ [] (by kernel_rfl) rfl fun m us w' hJ hmi hd => ?_
    generalize frame tabU a0 us = fr at *
    exact val_J (v := .pointer (some ⟨w'.heap.size, 0, none⟩)) (w' := w'.alloc (.cells Z 22)) (by go_simp) (hJ.x hmi)
  · refine stepJ [] (by kernel_rfl) rfl fun m us w' hJ hmi hd => ?_
    generalize frame tabU a0 us = fr at *
    exact val_J (v := .pointer (some ⟨w'.heap.size, 0, none⟩)) (w' := w'.alloc (.cells Z 22)) (by go_simp) (hJ.y hmi)
  · refine stepJ [6, 2] (by kernel_rfl) rfl fun m us w' hJ hmi hd => ?_
    obtain ⟨g, e1, e2, e4⟩ := hJ.v6 (hd 6 (by simp))
    rw [hmi] at e4
    have v6 := (frame_at2 (us := us) hl (show (tabU[8]?).join = some 6 from rfl)).trans e1
    have v2 := (frame_at2 (us := us) hl (show (tabU[14]?).join = some 2 from rfl)).trans (hJ.v2 (hd 2 (by simp)))
    generalize frame tabU a0 us = fr at *
    exact store_J 22 8 14 rfl g X v6 v2 _ _ e4 UX.out ZX.out OX.out (hJ.sx g (hd 6 (by simp)) e1)
  · refine stepJ [7, 5] (by kernel_rfl) rfl fun m us w' hJ hmi hd => ?_
    obtain ⟨g, e1, e2, e4⟩ := hJ.v7 (hd 7 (by simp))
    rw [hmi] at e4
    have v7 := (frame_at2 (us := us) hl (show (tabU[9]?).join = some 7 from rfl)).trans e1
    have v5 := (frame_at2 (us := us) hl (show (tabU[17]?).join = some 5 from rfl)).trans (hJ.v5 (hd 5 (by simp)))
    generalize frame tabU a0 us = fr at *
    exact store_J 22 9 17 rfl g Y v7 v5 _ _ e4 UY.out ZY.out OY.out (hJ.sy g (hd 7 (by simp)) e1)
  · intro m us w5 hmm hJ
    obtain ⟨gx, f1, f2, f4⟩ := hJ.v6 (hmm 6 (by decide))
    obtain ⟨gy, f1', f2', f4'⟩ := hJ.v7 (hmm 7 (by decide))
    rw [hmm 8 (by decide)] at f4
    rw [hmm 9 (by decide)] at f4'
    have G0 : Hid (VG w g7 gx gy k a b (encL k a) (encL k b) w5) := Lib.hid ⟨hJ.g, ⟨by rw [HX.out]; exact f4⟩, ⟨by rw [HY.out]; exact f4'⟩⟩
    clear hJ hmm f2 f4 f2' f4' HKG hl k4 k5 k7 CA CB UK7
    subst ha0
    simp only [Act.put, frame, tabU, fill, f1, f1']
    clear f1 f1'
    go_upto_region 3 with fail
    refine with_act fun a0 ha0 => ?_
    have hl : tabV.length = a0.tmps.size := by rw [ha0]; rfl
    have k3 : a0.tmps[3]?.getD undef = .pointer (some ⟨w.heap.size, 0, none⟩) := by rw [ha0]; rfl
    have k4 : a0.tmps[4]?.getD undef = .pointer (some ⟨w.heap.size + 1, 0, none⟩) := by rw [ha0]; rfl
    have k5 : a0.tmps[5]?.getD undef = .pointer (some ⟨w.heap.size + 1 + 1, 0, none⟩) := by rw [ha0]; rfl
    have k8 : a0.tmps[8]?.getD undef = .pointer (some ⟨gx, 0, none⟩) := by rw [ha0]; rfl
    have k9 : a0.tmps[9]?.getD undef = .pointer (some ⟨gy, 0, none⟩) := by rw [ha0]; rfl
    refine wp_region_vals (by kernel_rfl) tabV (by kernel_rfl) (by kernel_rfl) hl (fun i => if i = 17 then .bool false else undef) (by rw [ha0]; rfl) (VG w g7 gx gy k a b (encL k a) (encL k b)) (VV q K A B X Y) ?_ (VV.keep _ _ _ _ _ _) ⟨?_, ?_, ?_, ?_, ?_, ?_, ?_, ?_, ?_, ?_, ?_, ?_, ?_, ?_, ?_, ?_, ?_, ?_, trivial⟩ ?_
    · exact G0.out.below ⟨rfl, rfl, rfl, Nat.le_refl _, fun _ _ => rfl⟩
    · refine step_plain [] (by kernel_rfl) rfl fun us w' hG hV => ?_
      have o3 := (frame_old2 (us := us) (a := a0) (show (tabV[3]?).join = none from rfl)).trans k3
      have hg1 := hG.b.bk.row
      rw [HK.out] at hg1
      generalize frame tabV a0 us = fr at *
      exact load_ok 22 3 rfl w.heap.size o3 _ _ _ _ hg1 Try.underlying22 rfl UK.out hG rfl
    · refine step_plain [] (by kernel_rfl) rfl fun us w' hG hV => ?_
      have o8 := (frame_old2 (us := us) (a := a0) (show (tabV[8]?).join = none from rfl)).trans k8
      have hg1 := hG.x.row
      rw [HX.out] at hg1
      generalize frame tabV a0 us = fr at *
      exact load_ok 22 8 rfl gx o8 _ _ _ _ hg1 Try.underlying22 rfl UX.out hG rfl
    · refine step_plain [0, 1] (by kernel_rfl) rfl fun us w' hG hV => ?_
      have e0 : us 0 = .agg K := hV 0 (by simp)
      have v0 := (frame_at2 (us := us) hl (show (tabV[18]?).join = some 0 from rfl)).trans e0
      have e1 : us 1 = .agg X := hV 1 (by simp)
      have v1 := (frame_at2 (us := us) hl (show (tabV[19]?).join = some 1 from rfl)).trans e1
      generalize frame tabV a0 us = fr at *
      exact call_ok (f := 19) (args := #[.agg K, .agg X]) (by go_simp) ((CD.out w').mono fun e w'' h => ⟨_, h.1, hG.below h.2, h.2, rfl⟩)
    · refine step_plain [] (by kernel_rfl) rfl fun us w' hG hV => ?_
      have o4 := (frame_old2 (us := us) (a := a0) (show (tabV[4]?).join = none from rfl)).trans k4
      have hg1 := hG.b.ba.row
      rw [HA.out] at hg1
      generalize frame tabV a0 us = fr at *
      exact load_ok 22 4 rfl (w.heap.size + 1) o4 _ _ _ _ hg1 Try.underlying22 rfl UA.out hG rfl
    · refine step_plain [2, 3] (by kernel_rfl) rfl fun us w' hG hV => ?_
      have e2 : us 2 = .agg A := hV 2 (by simp)
      have v2 := (frame_at2 (us := us) hl (show (tabV[20]?).join = some 2 from rfl)).trans e2
      have e3 : us 3 = .agg A := hV 3 (by simp)
      have v3 := (frame_at2 (us := us) hl (show (tabV[21]?).join = some 3 from rfl)).trans e3
      have hq := HEA.out w'
      have hgd := guard16
      generalize frame tabV a0 us = fr at *
      exact val_ok (v := .bool true) (w' := w') (by go_simp) hG (Below.refl _ _) rfl
    · refine step_plain [4] (by kernel_rfl) rfl fun us w' hG hV => ?_
      have e4 : us 4 = .bool true := hV 4 (by simp)
      have v4 := (frame_at2 (us := us) hl (show (tabV[22]?).join = some 4 from rfl)).trans e4
      generalize frame tabV a0 us = fr at *
      exact val_ok (v := .bool true) (w' := w') (by go_simp) hG (Below.refl _ _) rfl
    · refine step_guard [5] (by kernel_rfl) (j := 5) (t := 23) (b := true) rfl (by simp) rfl hl rfl (fun v w h => h) fun us w' hG hV => ?_
      have e5 : us 5 = .bool true := hV 5 (by simp)
      have v5 := (frame_at2 (us := us) hl (show (tabV[23]?).join = some 5 from rfl)).trans e5
      have o8 := (frame_old2 (us := us) (a := a0) (show (tabV[8]?).join = none from rfl)).trans k8
      have hg1 := hG.x.row
      rw [HX.out] at hg1
      generalize frame tabV a0 us = fr at *
      exact load_ok 22 8 rfl gx o8 _ _ _ _ hg1 Try.underlying22 rfl UX.out hG rfl
    · refine step_guard [5] (by kernel_rfl) (j := 5) (t := 23) (b := true) rfl (by simp) rfl hl rfl (fun v w h => h) fun us w' hG hV => ?_
      have e5 : us 5 = .bool true := hV 5 (by simp)
      have v5 := (frame_at2 (us := us) hl (show (tabV[23]?).join = some 5 from rfl)).trans e5
      have o9 := (frame_old2 (us := us) (a := a0) (show (tabV[9]?).join = none from rfl)).trans k9
      have hg1 := hG.y.row
      rw [HY.out] at hg1
      generalize frame tabV a0 us = fr at *
      exact load_ok 22 9 rfl gy o9 _ _ _ _ hg1 Try.underlying22 rfl UY.out hG rfl
    · refine step_guard [5, 6, 7] (by kernel_rfl) (j := 5) (t := 23) (b := true) rfl (by simp) rfl hl rfl (fun v w h => h) fun us w' hG hV => ?_
      have e5 : us 5 = .bool true := hV 5 (by simp)
      have v5 := (frame_at2 (us := us) hl (show (tabV[23]?).join = some 5 from rfl)).trans e5
      have e6 : us 6 = .agg X := hV 6 (by simp)
      have v6 := (frame_at2 (us := us) hl (show (tabV[24]?).join = some 6 from rfl)).trans e6
      have e7 : us 7 = .agg Y := hV 7 (by simp)
      have v7 := (frame_at2 (us := us) hl (show (tabV[25]?).join = some 7 from rfl)).trans e7
      have hq := HEX.out w'
      have hgd := guard16
      generalize frame tabV a0 us = fr at *
      exact val_ok (v := .bool q) (w' := w') (by go_simp) hG (Below.refl _ _) rfl
    · refine step_guard [5] (by kernel_rfl) (j := 5) (t := 23) (b := true) rfl (by simp) rfl hl rfl (fun v w h => h) fun us w' hG hV => ?_
      have e5 : us 5 = .bool true := hV 5 (by simp)
      have v5 := (frame_at2 (us := us) hl (show (tabV[23]?).join = some 5 from rfl)).trans e5
      have o4 := (frame_old2 (us := us) (a := a0) (show (tabV[4]?).join = none from rfl)).trans k4
      have hg1 := hG.b.ba.row
      rw [HA.out] at hg1
      generalize frame tabV a0 us = fr at *
      exact load_ok 22 4 rfl (w.heap.size + 1) o4 _ _ _ _ hg1 Try.underlying22 rfl UA.out hG rfl
    · refine step_guard [5] (by kernel_rfl) (j := 5) (t := 23) (b := true) rfl (by simp) rfl hl rfl (fun v w h => h) fun us w' hG hV => ?_
      have e5 : us 5 = .bool true := hV 5 (by simp)
      have v5 := (frame_at2 (us := us) hl (show (tabV[23]?).join = some 5 from rfl)).trans e5
      have o5 := (frame_old2 (us := us) (a := a0) (show (tabV[5]?).join = none from rfl)).trans k5
      have hg1 := hG.b.bb.row
      rw [HB.out] at hg1
      generalize frame tabV a0 us = fr at *
      exact load_ok 22 5 rfl (w.heap.size + 1 + 1) o5 _ _ _ _ hg1 Try.underlying22 rfl UB.out hG rfl
    · refine step_guard [5, 9, 10] (by kernel_rfl) (j := 5) (t := 23) (b := true) rfl (by simp) rfl hl rfl (fun v w h => h) fun us w' hG hV => ?_
      have e5 : us 5 = .bool true := hV 5 (by simp)
      have v5 := (frame_at2 (us := us) hl (show (tabV[23]?).join = some 5 from rfl)).trans e5
      have e9 : us 9 = .agg A := hV 9 (by simp)
      have v9 := (frame_at2 (us := us) hl (show (tabV[27]?).join = some 9 from rfl)).trans e9
      have e10 : us 10 = .agg B := hV 10 (by simp)
      have v10 := (frame_at2 (us := us) hl (show (tabV[28]?).join = some 10 from rfl)).trans e10
      have hq := HEB.out w'
      have hgd := guard16
      generalize frame tabV a0 us = fr at *
      exact val_ok (v := .bool q) (w' := w') (by go_simp) hG (Below.refl _ _) rfl
    · refine step_guard [5, 8, 11] (by kernel_rfl) (j := 5) (t := 23) (b := true) rfl (by simp) rfl hl rfl (fun v w h => h) fun us w' hG hV => ?_
      have e5 : us 5 = .bool true := hV 5 (by simp)
      have v5 := (frame_at2 (us := us) hl (show (tabV[23]?).join = some 5 from rfl)).trans e5
      have e8 : us 8 = .bool q := hV 8 (by simp)
      have v8 := (frame_at2 (us := us) hl (show (tabV[26]?).join = some 8 from rfl)).trans e8
      have e11 : us 11 = .bool q := hV 11 (by simp)
      have v11 := (frame_at2 (us := us) hl (show (tabV[29]?).join = some 11 from rfl)).trans e11
      generalize frame tabV a0 us = fr at *
      cases q <;> exact val_ok (v := .bool true) (w' := w') (by go_simp) hG (Below.refl _ _) rfl
    · refine step_plain [5, 12] (by kernel_rfl) rfl fun us w' hG hV => ?_
      have e5 : us 5 = .bool true := hV 5 (by simp)
      have v5 := (frame_at2 (us := us) hl (show (tabV[23]?).join = some 5 from rfl)).trans e5
      have e12 : us 12 = .bool true := hV 12 (by simp)
      have v12 := (frame_at2 (us := us) hl (show (tabV[30]?).join = some 12 from rfl)).trans e12
      generalize frame tabV a0 us = fr at *
      exact val_ok (v := .bool true) (w' := w') (by go_simp) hG (Below.refl _ _) rfl
    · refine step_plain [13] (by kernel_rfl) rfl fun us w' hG hV => ?_
      have e13 : us 13 = .bool true := hV 13 (by simp)
      have v13 := (frame_at2 (us := us) hl (show (tabV[31]?).join = some 13 from rfl)).trans e13
      generalize frame tabV a0 us = fr at *
      exact val_ok (v := .bool true) (w' := w') (by go_simp) hG (Below.refl _ _) rfl
    · refine step_guard [14] (by kernel_rfl) (j := 14) (t := 32) (b := true) rfl (by simp) rfl hl rfl (fun v w h => h) fun us w' hG hV => ?_
      have e14 : us 14 = .bool true := hV 14 (by simp)
      have v14 := (frame_at2 (us := us) hl (show (tabV[32]?).join = some 14 from rfl)).trans e14
      generalize frame tabV a0 us = fr at *
      exact call_ok (f := 11) (args := #[]) (by go_simp) ((alive_any w').mono fun e w'' h => ⟨_, h.1, hG.below h.2, h.2, rfl⟩)
    · refine step_plain [14, 15] (by kernel_rfl) rfl fun us w' hG hV => ?_
      have e14 : us 14 = .bool true := hV 14 (by simp)
      have v14 := (frame_at2 (us := us) hl (show (tabV[32]?).join = some 14 from rfl)).trans e14
      have e15 : us 15 = .bool true := hV 15 (by simp)
      have v15 := (frame_at2 (us := us) hl (show (tabV[33]?).join = some 15 from rfl)).trans e15
      generalize frame tabV a0 us = fr at *
      exact val_ok (v := .bool true) (w' := w') (by go_simp) hG (Below.refl _ _) rfl
    · refine step_plain [16] (by kernel_rfl) rfl fun us w' hG hV => ?_
      have e16 : us 16 = .bool true := hV 16 (by simp)
      have v16 := (frame_at2 (us := us) hl (show (tabV[34]?).join = some 16 from rfl)).trans e16
      generalize frame tabV a0 us = fr at *
      exact val_ok (v := .bool true) (w' := w') (by go_simp) hG (Below.refl _ _) rfl
    · intro us w' hG hV
      have e17 : us 17 = .bool true := hV 17 (by decide)
      subst ha0
      simp only [frame, tabV, fill]
      rw [e17]
      go_wp2_with fail
      go_ret
      exact ⟨rfl, hG.b.bel⟩
end Go.Proofs.Ytjcdgdlononkhaa.aesC
