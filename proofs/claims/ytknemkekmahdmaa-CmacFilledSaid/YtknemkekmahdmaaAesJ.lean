/-
  AES: the code's round keys.
-/
import Derived.Test.YtknemkekmahdmaaAesI
namespace Go.Proofs.Ytknemkekmahdmaa.aesC
open Go.ChangeShapes Go.WideShapes Go.ChangeAt Go.RowKit
open Go.Proofs.Ytknemkekmahdmaa.memC Go.Proofs.Ytknemkekmahdmaa.genC Go.Proofs.Ytknemkekmahdmaa.aesM Go.Proofs.Ytknemkekmahdmaa.freeC
set_option linter.unusedVariables false
/-- the blocks that a call of rounds lays -/
structure KR (w : World) (k f : List Nat) (wr : World) : Prop where
  b0 : Bl 39 wr w.heap.size k
  b1 : Bl 49 wr (w.heap.size + 1) (zs 176)
  b2 : Bl 49 wr (w.heap.size + 1 + 1) f
  bel : Below w.heap.size w wr
section
variable {w wr w' : World} {k f f' : List Nat}
theorem KR.below (B : KR w k f wr) (b : Below wr.heap.size wr w') : KR w k f w' := ⟨B.b0.below b B.b0.lt, B.b1.below b B.b1.lt, B.b2.below b B.b2.lt, B.bel.trans (b.mono B.bel.size)⟩
theorem KR.put (B : KR w k f wr) : KR w k f' (wr.setRow (w.heap.size + 1 + 1) (vec f')) :=
  ⟨B.b0.row_other (by omega) _, B.b1.row_other (by omega) _, B.b2.setRow, below_setRow B.bel (by omega) _⟩
end
theorem piece {xs ys : List Nat} {q : Nat} (h : (xs.drop q).take 16 = ys) {T : TypeId} {w : World} {g : Nat} (B : Bl T w g xs) : ∀ j v, (vec ys)[j]? = some v → w.cell? ⟨g, q + j, none⟩ = some v := by
  intro j v hv
  subst h
  unfold vec at hv
  rw [List.getElem?_toArray, List.getElem?_map, List.getElem?_take] at hv
  by_cases hj : j < 16
  · rw [if_pos hj, List.getElem?_drop] at hv
    rw [cell_of_row w g (q + j) _ T (0, 0) B.row]
    unfold vec
    rw [List.getElem?_toArray, List.getElem?_map]; exact hv
  · rw [if_neg hj] at hv; cases hv
/-- a round key of those that are there -/
theorem FL_part {k : List Nat} (hk : BY k) (hl : k.length = 16) {n m : Nat} (h : n < 11) (hm : 16 * n + 16 ≤ m) (ys : List Nat) (hy : ys.length = 176) : ((mixP (FL k) ys m).drop (n * 16)).take 16 = rk k n := by
  rw [← FL_win hk hl h, Nat.mul_comm n 16]
  apply List.ext_getElem?
  intro j
  rw [List.getElem?_take, List.getElem?_take]
  by_cases hj : j < 16
  · rw [if_pos hj, if_pos hj, List.getElem?_drop, List.getElem?_drop]
    have hlen : (FL k).length = ys.length := by rw [FL_len, hy]
    rw [getD_eq (by rw [mixP_len hlen, hy]; omega), getD_eq (by rw [FL_len]; omega), mixP_new hlen (by omega)]
  · rw [if_neg hj, if_neg hj]
theorem vec_parts (a b c : List Nat) : ((vec a).toList ++ (vec b).toList ++ (vec c).toList).toArray = vec (a ++ b ++ c) := by unfold vec; simp
theorem vec_take (a : List Nat) (n : Nat) : (vec a).toList.take n = (vec (a.take n)).toList := by unfold vec; simp [List.map_take]
theorem vec_drop (a : List Nat) (n : Nat) : (vec a).toList.drop n = (vec (a.drop n)).toList := by unfold vec; simp [List.map_drop]
theorem FL_set {k : List Nat} (hk : BY k) (hl : k.length = 16) {n : Nat} (h : n < 11) (ys : List Nat) (hy : ys.length = 176) :
    ((vec (mixP (FL k) ys (16 * n))).toList.take (n * 16) ++ (vec (rk k n)).toList ++ (vec (mixP (FL k) ys (16 * n))).toList.drop (n * 16 + (vec (rk k n)).size)).toArray = vec (mixP (FL k) ys (16 * n + 16)) := by
  rw [vec_size, (rk_ok hk hl n).2, vec_take, vec_drop, vec_parts, Nat.mul_comm n 16, FL_put hk hl h ys hy]
set_option maxRecDepth 100000 in
set_option maxHeartbeats 1000000 in
theorem rounds_any (k : List Nat) (w : World) (hk : k.length = 16) (yk : BY k) :
    Calls Try.prog 28 #[.agg (vec k)] w (Ret w (.agg (vec (FL k)))) := by
  obtain ⟨X, hX⟩ : ∃ X, X = vec k := ⟨_, rfl⟩
  obtain ⟨Z, hZ⟩ : ∃ Z, Z = vec (zs 176) := ⟨_, rfl⟩
  obtain ⟨F, hF⟩ : ∃ F, F = vec (mixP (FL k) (zs 176) 16) := ⟨_, rfl⟩
  have hzv := zero11
  rw [← hZ] at hzv
  have hb := Lib.hid (show Try.prog.built 49 [(0, .agg X)] = some F by rw [hX, hF, ← FL_first yk hk]; exact built_all hk)
  have lenf : ∀ n, (mixP (FL k) (zs 176) n).length = 176 := fun n => by rw [mixP_len (by rw [FL_len, zs_len]), zs_len]
  have U1 := Lib.hid (show (Try.prog.info? 22).map (·.size) = some X.size by rw [b16_info, hX, vec_size, hk])
  have U2 := Lib.hid (show (Try.prog.info? 49).map (·.size) = some F.size by rw [b176_info, hF, vec_size, lenf])
  have ZF := Lib.hid (show Z.size = F.size by rw [hZ, hF, vec_size, vec_size, lenf, zs_len])
  have OF := Lib.hid (show F.all (·.oneCell') = true by rw [hF]; exact vec_one _)
  have e1 : (w.alloc (.cells X 39)).heap.size = w.heap.size + 1 := alloc_size _ _
  obtain ⟨W, hW⟩ : ∃ W, W = (w.alloc (.cells X 39)).alloc (.cells Z 49) := ⟨_, rfl⟩
  have eW : W.heap.size = w.heap.size + 1 + 1 := by rw [hW, alloc_size, e1]
  have EW := Lib.hid eW
  have R0 := Lib.hid (show W.heap[w.heap.size]? = some (.cells X 39 (0, 0)) by rw [hW, Below.block (alloc_below _ _) _ (by rw [e1]; omega)]; exact heap_alloc_new w _)
  have R1 : Bl 49 W (w.heap.size + 1) (zs 176) := ⟨by rw [hW, ← e1, hZ]; exact heap_alloc_new _ _⟩
  have BW : Below w.heap.size w W := by rw [hW]; exact ((Below.refl _ _).alloc (Nat.le_refl _) _).alloc (by simp) _
  have K0 : Hid (KR w k (mixP (FL k) (zs 176) 16) (W.alloc (.cells F 49))) := by
    refine Lib.hid ⟨?_, R1.alloc _, ?_, BW.alloc BW.size _⟩
    · have : Bl 39 W w.heap.size k := ⟨by rw [R0.out, hX]⟩
      exact this.alloc _
    · have := Bl.new W 49 (mixP (FL k) (zs 176) 16)
      rw [← hF, eW] at this; exact this
  have HK := Lib.hid hk
  have YK := Lib.hid yk
  have U3 := Lib.hid (show (Try.prog.info? 49).map (·.size) = some (vec (FL k)).size by rw [b176_info, vec_size, FL_len])
  rw [← hX]
  clear hX hZ hF e1 eW R1 BW hk yk lenf
  go_enter Try.func28, Try.ntmps28
  go_upto_region 1 with fail
  rw [← hW]
  clear hW
  go_upto_region 2 with (first
    | (refine wpList_load_row rfl 22 (.tmp 6) rfl w.heap.size rfl _ _ _ _ R0.out Try.underlying39 rfl U1.out ?_)
    | (refine wpList_load_row rfl 22 (.tmp 6) rfl w.heap.size rfl _ _ _ _ R0.out Try.underlying22 rfl U1.out ?_)
    | (refine wpList_built rfl 49 0 (.tmp 7) rfl (.agg X) rfl F hb.out ?_)
    | (refine wpList_store_row rfl 49 (.tmp 3) (.tmp 8) rfl W.heap.size _ rfl rfl _ _ (heap_alloc_new _ _) U2.out ZF.out OF.out ?_))
  rw [World.setRow_alloc_new]
  rw [EW.out]
  clear hzv R0
  have K0' := K0.out
  generalize W.alloc (.cells F 49) = W2 at *
  have K2 := Lib.hid K0'
  clear K0 K0' hb U2 ZF OF EW
  go_wp2_with fail
  go_loopw [4, 9] (fun y i wr => ∃ n : Nat, n ≤ 10 ∧ i = .int .i64 n ∧ y = .int .u8 ((rc n : Nat) : Int) ∧ KR w k (mixP (FL k) (zs 176) (16 * n + 16)) wr) (fun _ i _ => 10 - (intOf i).toNat)
  case atStart => exact ⟨0, by omega, rfl, rfl, K2.out⟩
  case round =>
    obtain ⟨n, hn, rfl, rfl, BB⟩ := hrel
    have HB := Lib.hid BB
    by_cases hlt : n < 10
    · have hnz : (n : Int) < 10 := by omega
      obtain ⟨y, hy⟩ : ∃ y, y = rc n := ⟨_, rfl⟩
      have hyb : y < 256 := by rw [hy]; exact rc_lt n
      have HY := Lib.hid (show rc (n + 1) = dbl y by rw [hy]; rfl)
      rw [← hy]
      have D := Lib.hid (fun w => double_any y w hyb)
      obtain ⟨h1, h2⟩ := rk_ok YK.out HK.out n
      obtain ⟨h3, h4⟩ := rk_ok YK.out HK.out (n + 1)
      have NX := Lib.hid (fun w => (next_any (rk k n) y w h2 h1 hyb))
      have e2 : nxt (rk k n) y = rk k (n + 1) := by rw [hy]; rfl
      rw [e2] at NX
      generalize dbl y = y2 at *
      obtain ⟨n1, hn1⟩ : ∃ n1, n1 = n + 1 := ⟨_, rfl⟩
      have z1 : (n : Int) + 1 = (n1 : Int) := by omega
      have l1 : (n1 : Int) < 11 := by omega
      have lenf : (mixP (FL k) (zs 176) (16 * n1)).length = 176 := by rw [mixP_len (by rw [FL_len, zs_len]), zs_len]
      have LC := Lib.hid (piece (FL_part YK.out HK.out (n := n) (m := 16 * n + 16) (by omega) (Nat.le_refl _) (zs 176) (zs_len _)) HB.out.b2)
      have SC := Lib.hid (FL_set YK.out HK.out (n := n1) (by omega) (zs 176) (zs_len _))
      rw [show 16 * n + 16 = 16 * n1 by omega] at HB
      rw [← hn1] at NX HY h3 h4
      have UA := Lib.hid (show (Try.prog.info? 22).map (·.size) = some (vec (rk k n)).size by rw [b16_info, vec_size, h2])
      have UB := Lib.hid (show (Try.prog.info? 22).map (·.size) = some (vec (rk k n1)).size by rw [b16_info, vec_size, h4])
      have SZ := Lib.hid (show n1 * 16 + (vec (rk k n1)).size ≤ (vec (mixP (FL k) (zs 176) (16 * n1))).size by rw [vec_size, vec_size, h4, lenf]; omega)
      have OB := Lib.hid (vec_one (rk k n1))
      have HN := Lib.hid hn1
      obtain ⟨A, hA⟩ : ∃ A, A = vec (rk k n) := ⟨_, rfl⟩
      obtain ⟨B, hB⟩ : ∃ B, B = vec (rk k n1) := ⟨_, rfl⟩
      rw [← hA] at NX LC UA
      rw [← hB] at NX SC UB SZ OB
      clear e2 hy hyb BB hn1 hA hB h1 h2 h3 h4 lenf
      go_upto_region 7 with (first
        | (refine wpList_load_piece rfl 22 (.tmp 15) rfl (w.heap.size + 1 + 1) (n * 16) rfl A _ LC.out Try.underlying22 rfl UA.out ?_)
        | (go_at_call 33; (with_reducible refine (NX.out _).mono ?_); rintro e w1 ⟨rfl, B1⟩
           have KB := Lib.hid (HB.out.below B1)
           clear B1)
        | (refine wpList_store_piece rfl 22 (.tmp 19) (.tmp 18) rfl (w.heap.size + 1 + 1) (n1 * 16) B rfl rfl _ _ KB.out.b2.row UB.out SZ.out OB.out _ SC.out ?_))
      have KP := Lib.hid (KB.out.put (f' := mixP (FL k) (zs 176) (16 * n1 + 16)))
      generalize w1.setRow (w.heap.size + 1 + 1) (vec (mixP (FL k) (zs 176) (16 * n1 + 16))) = w2 at *
      clear KB LC SC UA UB SZ OB NX HB
      go_wp2_with (first
        | (go_at_call 34; (with_reducible refine (D.out _).mono ?_); rintro e w3 ⟨rfl, rfl⟩))
      go_roundw
      case rel => exact ⟨n1, by have := HN.out; omega, rfl, by rw [HY.out], KP.out⟩
      case measure => have := HN.out; simp [intOf]; omega
    · have e : n = 10 := by omega
      subst e
      have hf : mixP (FL k) (zs 176) (16 * 10 + 16) = FL k := mixP_full (by rw [FL_len, zs_len])
      rw [hf] at BB
      have G1 := Lib.hid BB.b2.row
      have G2 := Lib.hid BB.b1.row
      have BQ := Lib.hid BB.bel
      have ZL := Lib.hid (show (vec (zs 176)).size = (vec (FL k)).size by rw [vec_size, vec_size, FL_len, zs_len])
      clear BB HB hf hlt hn
      have OR := Lib.hid (vec_one (FL k))
      generalize vec (FL k) = R at *
      go_wp2_with (first
        | (refine wpList_load_row rfl 49 (.tmp 3) rfl (w.heap.size + 1 + 1) rfl _ _ _ _ G1.out Try.underlying49 rfl U3.out ?_)
        | (refine wpList_store_row rfl 49 (.tmp 2) (.tmp 23) rfl (w.heap.size + 1) _ rfl rfl _ _ G2.out U3.out ZL.out OR.out ?_))
      refine bodyPost_ret (v := .agg R) (results_cell_row Try.results28 _ _ (w.heap.size + 1) _ _ _ _ (by rfl) (setRow_heap _ _ _ _ _ _ G2.out) Try.underlying49 rfl U3.out) rfl ⟨rfl, ?_⟩
      exact below_setRow BQ.out (by omega) _
end Go.Proofs.Ytknemkekmahdmaa.aesC
