/-
  AES: the code's Encrypt.
-/
import Derived.Test.YtknemkekmahdmaaAesK
namespace Go.Proofs.Ytknemkekmahdmaa.aesC
open Go.ChangeShapes Go.WideShapes Go.ChangeAt Go.RowKit
open Go.Proofs.Ytknemkekmahdmaa.memC Go.Proofs.Ytknemkekmahdmaa.genC Go.Proofs.Ytknemkekmahdmaa.aesM Go.Proofs.Ytknemkekmahdmaa.freeC
set_option linter.unusedVariables false
/-- a block behind n rounds -/
def encS (k b : List Nat) : Nat → List Nat
  | 0 => xorL b (rk k 0)
  | n + 1 => xorL (mixL (shL (encS k b n))) (rk k (n + 1))
/-- a block, encrypted -/
def encL (k b : List Nat) : List Nat := xorL (shL (encS k b 9)) (rk k 10)
theorem encS_len (k b : List Nat) : ∀ n, (encS k b n).length = 16
  | 0 => xorL_len _ _
  | n + 1 => xorL_len _ _
theorem encS_by {k b : List Nat} (hk : BY k) (hl : k.length = 16) (hb : BY b) : ∀ n, BY (encS k b n)
  | 0 => xorL_by hb (rk_ok hk hl 0).1
  | n + 1 => xorL_by (mixL_by (shL_by _)) (rk_ok hk hl (n + 1)).1
theorem encL_len (k b : List Nat) : (encL k b).length = 16 := xorL_len _ _
theorem encL_by {k : List Nat} (hk : BY k) (hl : k.length = 16) (b : List Nat) : BY (encL k b) := xorL_by (shL_by _) (rk_ok hk hl 10).1
/-- a load of a piece, in a region that draws its order -/
theorem loadp_ok {P : Program} {Q : Exit → Act → World → Prop} {o : Oper} {G : World → Prop} {V : Nat → Value → World → Prop} {i : Nat} {w : World} {fr : Act} (ty : TypeId) (s : Tmp) (ho : o.op = .load ty (.tmp s)) (g q : Nat) (hx : fr.tmps[s]?.getD undef = .pointer (some ⟨g, q, none⟩)) (cs : Array Value) (d : TypeDesc)
    (hc : ∀ j v, cs[j]? = some v → w.cell? ⟨g, q + j, none⟩ = some v) (hu : P.underlying ty = some d) (hd : (match d with | .struct _ | .array _ _ => true | _ => false) = true) (hi : (P.info? ty).map (·.size) = some cs.size) (hG : G w) (hV : V i (.agg cs) w) :
    o.wp P fr w (fun a' w' => ∃ v, a' = fr.put o.dst v ∧ G w' ∧ Below w.heap.size w w' ∧ V i v w') Q := by
  have hl := Go.Proofs.Ytknemkekmahdmaa.partC.run_load_part (P := P) w g q ty cs.toList d (fun j v hv => hc j v (by simpa using hv)) hu hd (by simpa using hi)
  have hx2 : fr.eval (.tmp s) = .pointer (some ⟨g, q, none⟩) := by simpa only [Act.eval, Array.getD_eq_getD_getElem?] using hx
  refine val_ok (v := .agg cs) (w' := w) ?_ hG (Below.refl _ _) hV
  unfold execOp
  simp only [ho, hx2, Instr.loadAt, Instr.sureAddr, Sem.run_bind, Sem.run_pure, Result.andThen_ok, hl]
/-- the blocks that a call of Encrypt lays -/
structure ER (w : World) (g : Nat) (k b : List Nat) (wr : World) : Prop where
  b1 : Bl 22 wr (w.heap.size + 1) b
  b2 : Bl 22 wr (w.heap.size + 1 + 1) (zs 16)
  b5 : Bl 49 wr g (FL k)
  lt : w.heap.size + 1 + 1 < g
  bel : Below w.heap.size w wr
structure ES (w : World) (g g7 : Nat) (k b y : List Nat) (wr : World) : Prop where
  er : ER w g k b wr
  b7 : Bl 22 wr g7 y
section
variable {w wr w' : World} {g g7 : Nat} {k b b' y : List Nat}
theorem ER.below (B : ER w g k b wr) (h : Below wr.heap.size wr w') : ER w g k b w' := ⟨B.b1.below h B.b1.lt, B.b2.below h B.b2.lt, B.b5.below h B.b5.lt, B.lt, B.bel.trans (h.mono B.bel.size)⟩
theorem ER.put (B : ER w g k b wr) : ER w g k b' (wr.setRow (w.heap.size + 1) (vec b')) := by
  have h := B.lt
  exact ⟨B.b1.setRow, B.b2.row_other (by omega) _, B.b5.row_other (by omega) _, h, below_setRow B.bel (by omega) _⟩
theorem ES.below (B : ES w g g7 k b y wr) (h : Below wr.heap.size wr w') : ES w g g7 k b y w' := ⟨B.er.below h, B.b7.below h B.b7.lt⟩
end
def tabE : List (Option Nat) := [none, none, none, none, none, none, none, none, none, none, none, none, none, none, none, none, none, none, none, none, some 0, some 1, some 2, some 3, some 4, none, none, none, none, none, none]
def EV (A S M K R : Array Value) : Nat → Value → World → Prop
  | 0, v, _ => v = .agg A
  | 1, v, _ => v = .agg S
  | 2, v, _ => v = .agg M
  | 3, v, _ => v = .agg K
  | 4, v, _ => v = .agg R
  | _, _, _ => True
theorem EV.keep (A S M K R : Array Value) (i : Nat) (v : Value) (w w' : World) (hb : Below w.heap.size w w') (h : EV A S M K R i v w) : EV A S M K R i v w' := by
  unfold EV at h ⊢
  split at h <;> exact h
def tabF : List (Option Nat) := [none, none, none, none, none, none, none, none, none, none, none, none, none, none, none, none, none, none, none, none, none, none, none, none, none, none, some 0, some 1, some 2, some 3, some 4]
def FV (g : Nat) (A S K R : Array Value) : Nat → Value → World → Prop
  | 0, v, _ => v = .agg A
  | 1, v, _ => v = .agg S
  | 2, v, _ => v = .pointer (some ⟨g, 160, none⟩)
  | 3, v, _ => v = .agg K
  | 4, v, _ => v = .agg R
  | _, _, _ => True
theorem FV.keep (g : Nat) (A S K R : Array Value) (i : Nat) (v : Value) (w w' : World) (hb : Below w.heap.size w w') (h : FV g A S K R i v w) : FV g A S K R i v w' := by
  unfold FV at h ⊢
  split at h <;> exact h
theorem vec_info {xs : List Nat} (h : xs.length = 16) : (Try.prog.info? 22).map (·.size) = some (vec xs).size := by rw [b16_info, vec_size, h]
set_option maxRecDepth 100000 in
set_option maxHeartbeats 1000000 in
theorem encrypt_any (k b : List Nat) (w : World) (hk : k.length = 16) (yk : BY k) (hb : b.length = 16) (yb : BY b) :
    Calls Try.prog 23 #[.agg (vec k), .agg (vec b)] w (Ret w (.agg (vec (encL k b)))) := by
  obtain ⟨X, hX⟩ : ∃ X, X = vec k := ⟨_, rfl⟩
  obtain ⟨Y, hY⟩ : ∃ Y, Y = vec b := ⟨_, rfl⟩
  obtain ⟨Z, hZ⟩ : ∃ Z, Z = vec (zs 16) := ⟨_, rfl⟩
  obtain ⟨Z2, hZ2⟩ : ∃ Z, Z = vec (zs 176) := ⟨_, rfl⟩
  obtain ⟨F, hF⟩ : ∃ F, F = vec (FL k) := ⟨_, rfl⟩
  obtain ⟨K0, hK0⟩ : ∃ K0, K0 = vec (rk k 0) := ⟨_, rfl⟩
  obtain ⟨R0, hR0⟩ : ∃ R0, R0 = vec (encS k b 0) := ⟨_, rfl⟩
  have hzv := zero16
  rw [← hZ] at hzv
  have hzv2 := zero11
  rw [← hZ2] at hzv2
  have e1 : (w.alloc (.cells X 39)).heap.size = w.heap.size + 1 := alloc_size _ _
  have e2 : ((w.alloc (.cells X 39)).alloc (.cells Y 22)).heap.size = w.heap.size + 1 + 1 := by rw [alloc_size, e1]
  obtain ⟨W, hW⟩ : ∃ W, W = ((w.alloc (.cells X 39)).alloc (.cells Y 22)).alloc (.cells Z 22) := ⟨_, rfl⟩
  have eW : W.heap.size = w.heap.size + 1 + 1 + 1 := by rw [hW, alloc_size, e2]
  have KX : Bl 39 W w.heap.size k := by rw [hW, hX]; exact ((Bl.new w _ k).alloc _).alloc _
  have KY : Bl 22 W (w.heap.size + 1) b := by rw [hW, hY, ← e1]; exact (Bl.new _ _ b).alloc _
  have KZ : Bl 22 W (w.heap.size + 1 + 1) (zs 16) := by rw [hW, hZ, ← e2]; exact Bl.new _ _ _
  have BW : Below w.heap.size w W := by rw [hW]; exact (((Below.refl _ _).alloc (Nat.le_refl _) _).alloc (by simp) _).alloc (by simp; omega) _
  have RX := Lib.hid (hX ▸ KX.row : W.heap[w.heap.size]? = some (.cells X 39 (0, 0)))
  have UX := Lib.hid (show (Try.prog.info? 39).map (·.size) = some X.size by rw [key_info, hX, vec_size, hk])
  have UF := Lib.hid (show (Try.prog.info? 49).map (·.size) = some F.size by rw [b176_info, hF, vec_size, FL_len])
  have ZF := Lib.hid (show Z2.size = F.size by rw [hZ2, hF, vec_size, vec_size, FL_len, zs_len])
  have OF := Lib.hid (show F.all (·.oneCell') = true by rw [hF]; exact vec_one _)
  have RA := Lib.hid (rounds_any k W hk yk)
  rw [← hX, ← hF] at RA
  have UB := Lib.hid (show (Try.prog.info? 22).map (·.size) = some Y.size by rw [hY]; exact vec_info hb)
  have UK0 := Lib.hid (show (Try.prog.info? 22).map (·.size) = some K0.size by rw [hK0]; exact vec_info (rk_ok yk hk 0).2)
  have UR0 := Lib.hid (show (Try.prog.info? 22).map (·.size) = some R0.size by rw [hR0]; exact vec_info (encS_len k b 0))
  have SR0 := Lib.hid (show (vec b).size = R0.size by rw [hR0, vec_size, vec_size, hb, encS_len])
  have OR0 := Lib.hid (show R0.all (·.oneCell') = true by rw [hR0]; exact vec_one _)
  have CT0 := Lib.hid (fun w => turn_any b (rk k 0) w hb (rk_ok yk hk 0).2 yb (rk_ok yk hk 0).1)
  rw [← hY, ← hK0, show vec (xorL b (rk k 0)) = R0 by rw [hR0]; rfl] at CT0
  have EY := Lib.hid hY
  have ZS := Lib.hid (show Z.size = 16 by rw [hZ, vec_size, zs_len])
  have ER0 := Lib.hid hR0
  have EF := Lib.hid hF
  have HW := Lib.hid eW
  have HKY := Lib.hid KY
  have HKZ := Lib.hid KZ
  have HBW := Lib.hid BW
  have HK := Lib.hid hk
  have YK := Lib.hid yk
  have YS := Lib.hid (encS_by yk hk yb)
  have EK0 := Lib.hid hK0
  have ZN := Lib.hid (show (vec (zs 16)).size = (vec (encL k b)).size by rw [vec_size, vec_size, encL_len, zs_len])
  rw [← hX, ← hY]
  clear hX hY hZ hZ2 hF hK0 hR0 e1 e2 eW KX KY KZ BW hk yk hb yb
  go_enter Try.func23, Try.ntmps23
  go_upto_region 1 with fail
  rw [← hW]
  clear hW
  go_upto_region 2 with (first
    | (refine wpList_load_row rfl 39 (.tmp 2) rfl w.heap.size rfl _ _ _ _ RX.out Try.underlying39 rfl UX.out ?_)
    | (go_at_call 28; (with_reducible refine RA.out.mono ?_); rintro e w1 ⟨rfl, B1⟩)
    | (refine wpList_store_row rfl 49 (.tmp 5) (.tmp 9) rfl w1.heap.size _ rfl rfl _ _ (heap_alloc_new _ _) UF.out ZF.out OF.out ?_))
  rw [World.setRow_alloc_new]
  have E2 : ER w w1.heap.size k b (w1.alloc (.cells F 49)) := by
    have hs := B1.size
    rw [HW.out] at hs
    refine ⟨(HKY.out.below B1 HKY.out.lt).alloc _, (HKZ.out.below B1 HKZ.out.lt).alloc _, ?_, by omega, (HBW.out.trans (B1.mono HBW.out.size)).alloc (by omega) _⟩
    rw [EF.out]; exact Bl.new w1 _ _
  generalize w1.alloc (.cells F 49) = W2 at *
  generalize w1.heap.size = g at *
  have H2 := Lib.hid E2
  have RY := Lib.hid (show W2.heap[w.heap.size + 1]? = some (.cells Y 22 (0, 0)) by rw [EY.out]; exact E2.b1.row)
  have PK0 := Lib.hid (show ∀ w', ER w g k b w' → ∀ j v, K0[j]? = some v → w'.cell? ⟨g, 0 + j, none⟩ = some v from fun w' h => by
    rw [EK0.out]
    exact piece (by have := FL_win YK.out HK.out (n := 0) (by omega); rw [Nat.mul_zero] at this; exact this) h.b5)
  clear B1 E2 RX UX UF ZF OF RA HKY HKZ HBW hzv2 EF
  go_upto_region 3 with (first
    | (refine wpList_load_row rfl 22 (.tmp 3) rfl (w.heap.size + 1) rfl _ _ _ _ RY.out Try.underlying22 rfl UB.out ?_)
    | (refine wpList_load_piece rfl 22 (.tmp 11) rfl g 0 rfl K0 _ (PK0.out _ H2.out) Try.underlying22 rfl UK0.out ?_)
    | (go_at_call 29; (with_reducible refine (CT0.out _).mono ?_); rintro e w3 ⟨rfl, B3⟩
       have H3 := Lib.hid (H2.out.below B3)
       clear B3)
    | (refine wpList_store_row rfl 22 (.tmp 3) (.tmp 13) rfl (w.heap.size + 1) _ rfl rfl _ _ H3.out.b1.row UR0.out SR0.out OR0.out ?_))
  have H4 : Hid (ER w g k (encS k b 0) (w3.setRow (w.heap.size + 1) R0)) := Lib.hid (by rw [ER0.out]; exact H3.out.put)
  generalize w3.setRow (w.heap.size + 1) R0 = w4 at *
  clear H2 RY PK0 H3 CT0 UR0 SR0 OR0 UK0 UB ER0 EK0 EY
  go_wp2_with fail
  go_loopw [16] (fun i wr => ∃ n : Nat, n ≤ 9 ∧ i = .int .i64 n ∧ ER w g k (encS k b n) wr) (fun i _ => 9 - (intOf i).toNat)
  case atStart => exact ⟨0, by omega, rfl, H4.out⟩
  case round =>
    obtain ⟨n, hn, rfl, BB⟩ := hrel
    have HB := Lib.hid BB
    by_cases hlt : n < 9
    · have hnz : (n : Int) < 9 := by omega
      obtain ⟨yk1, lk1⟩ := rk_ok YK.out HK.out (n + 1)
      have la := encS_len k b n
      have ya := YS.out n
      have CS := Lib.hid (fun w => shift_any (encS k b n) w la ya)
      have CM := Lib.hid (fun w => multiply_any (shL (encS k b n)) w (shL_len _) (shL_by _))
      have CT := Lib.hid (fun w => turn_any (mixL (shL (encS k b n))) (rk k (n + 1)) w (mixL_len _) lk1 (mixL_by (shL_by _)) yk1)
      have PK := Lib.hid (piece (show ((FL k).drop (16 + n * 16)).take 16 = rk k (n + 1) by rw [show 16 + n * 16 = 16 * (n + 1) by omega]; exact FL_win YK.out HK.out (by omega)) HB.out.b5)
      have UA := Lib.hid (vec_info la)
      have UK := Lib.hid (vec_info lk1)
      have UR := Lib.hid (vec_info (xorL_len (mixL (shL (encS k b n))) (rk k (n + 1))))
      have SR := Lib.hid (show (vec (encS k b n)).size = (vec (xorL (mixL (shL (encS k b n))) (rk k (n + 1)))).size by rw [vec_size, vec_size, la, xorL_len])
      have SK := Lib.hid (show Z.size = (vec (rk k (n + 1))).size by rw [ZS.out, vec_size, lk1])
      obtain ⟨A, hA⟩ : ∃ A, A = vec (encS k b n) := ⟨_, rfl⟩
      obtain ⟨S, hS⟩ : ∃ S, S = vec (shL (encS k b n)) := ⟨_, rfl⟩
      obtain ⟨M, hM⟩ : ∃ M, M = vec (mixL (shL (encS k b n))) := ⟨_, rfl⟩
      obtain ⟨K, hK⟩ : ∃ K, K = vec (rk k (n + 1)) := ⟨_, rfl⟩
      obtain ⟨R, hR⟩ : ∃ R, R = vec (xorL (mixL (shL (encS k b n))) (rk k (n + 1))) := ⟨_, rfl⟩
      have HA := Lib.hid hA.symm
      have HKk := Lib.hid hK.symm
      have OK := Lib.hid (show K.all (·.oneCell') = true by rw [hK]; exact vec_one _)
      have OR := Lib.hid (show R.all (·.oneCell') = true by rw [hR]; exact vec_one _)
      have HR := Lib.hid (show R = vec (encS k b (n + 1)) from hR)
      rw [← hA, ← hS] at CS
      rw [← hS, ← hM] at CM
      rw [← hM, ← hK, ← hR] at CT
      rw [← hK] at PK UK SK
      rw [← hR] at UR SR
      rw [← hA] at UA SR
      clear hA hS hM hK hR BB la ya yk1 lk1
      go_upto_region 6 with (first
        | (refine wpList_load_piece rfl 22 (.tmp 18) rfl g (16 + n * 16) rfl K _ PK.out Try.underlying22 rfl UK.out ?_)
        | (refine wpList_store_row rfl 22 (.tmp 7) (.tmp 19) rfl wr.heap.size _ rfl rfl _ _ (heap_alloc_new _ _) UK.out SK.out OK.out ?_))
      rw [World.setRow_alloc_new]
      have E5 : ES w g wr.heap.size k (encS k b n) (rk k (n + 1)) (wr.alloc (.cells K 22)) := ⟨HB.out.below (alloc_below _ _), by rw [← HKk.out]; exact Bl.new _ _ _⟩
      generalize wr.alloc (.cells K 22) = w5 at *
      generalize wr.heap.size = g7 at *
      refine with_act fun a0 ha0 => ?_
      have hl : tabE.length = a0.tmps.size := by rw [ha0]; rfl
      have k3 : a0.tmps[3]?.getD undef = .pointer (some ⟨w.heap.size + 1, 0, none⟩) := by rw [ha0]; rfl
      have k7 : a0.tmps[7]?.getD undef = .pointer (some ⟨g7, 0, none⟩) := by rw [ha0]; rfl
      refine wp_region_end 5 (by kernel_rfl) tabE (by kernel_rfl) (by kernel_rfl) hl (by kernel_rfl) (by kernel_rfl) (fun i => a0.tmps[i + 20]?.getD undef) (by rw [ha0]; rfl) (ES w g g7 k (encS k b n) (rk k (n + 1))) (EV A S M K R) ?_ (EV.keep _ _ _ _ _) ⟨?_, ?_, ?_, ?_, ?_, trivial⟩ ?_
      · exact ⟨⟨E5.er.b1.heap rfl, E5.er.b2.heap rfl, E5.er.b5.heap rfl, E5.er.lt, E5.er.bel.drew⟩, E5.b7.heap rfl⟩
      · refine step_plain [] (by kernel_rfl) rfl fun us w' hG hV => ?_
        have o3 := (frame_old2 (us := us) (a := a0) (show (tabE[3]?).join = none from rfl)).trans k3
        have hg1 := hG.er.b1.row
        rw [HA.out] at hg1
        generalize frame tabE a0 us = fr at *
        exact load_ok 22 3 rfl (w.heap.size + 1) o3 _ _ _ _ hg1 Try.underlying22 rfl UA.out hG rfl
      · refine step_plain [0] (by kernel_rfl) rfl fun us w' hG hV => ?_
        have e0 : us 0 = .agg A := hV 0 (by simp)
        have v0 := (frame_at2 (us := us) hl (show (tabE[20]?).join = some 0 from rfl)).trans e0
        generalize frame tabE a0 us = fr at *
        exact call_ok (f := 31) (args := #[.agg A]) (by go_simp) ((CS.out w').mono fun e w'' h => ⟨_, h.1, hG.below h.2, h.2, rfl⟩)
      · refine step_plain [1] (by kernel_rfl) rfl fun us w' hG hV => ?_
        have e1 : us 1 = .agg S := hV 1 (by simp)
        have v1 := (frame_at2 (us := us) hl (show (tabE[21]?).join = some 1 from rfl)).trans e1
        generalize frame tabE a0 us = fr at *
        exact call_ok (f := 30) (args := #[.agg S]) (by go_simp) ((CM.out w').mono fun e w'' h => ⟨_, h.1, hG.below h.2, h.2, rfl⟩)
      · refine step_plain [] (by kernel_rfl) rfl fun us w' hG hV => ?_
        have o7 := (frame_old2 (us := us) (a := a0) (show (tabE[7]?).join = none from rfl)).trans k7
        have hg7 := hG.b7.row
        rw [HKk.out] at hg7
        generalize frame tabE a0 us = fr at *
        exact load_ok 22 7 rfl g7 o7 _ _ _ _ hg7 Try.underlying22 rfl UK.out hG rfl
      · refine step_plain [2, 3] (by kernel_rfl) rfl fun us w' hG hV => ?_
        have e2 : us 2 = .agg M := hV 2 (by simp)
        have v2 := (frame_at2 (us := us) hl (show (tabE[22]?).join = some 2 from rfl)).trans e2
        have e3 : us 3 = .agg K := hV 3 (by simp)
        have v3 := (frame_at2 (us := us) hl (show (tabE[23]?).join = some 3 from rfl)).trans e3
        generalize frame tabE a0 us = fr at *
        exact call_ok (f := 29) (args := #[.agg M, .agg K]) (by go_simp) ((CT.out w').mono fun e w'' h => ⟨_, h.1, hG.below h.2, h.2, rfl⟩)
      · intro us w' o ho hG hV
        obtain rfl := Option.some.inj ho
        have e4 : us 4 = .agg R := hV 4 (by decide)
        have v4 := (frame_at2 (us := us) hl (show (tabE[24]?).join = some 4 from rfl)).trans e4
        have o3 := (frame_old2 (us := us) (a := a0) (show (tabE[3]?).join = none from rfl)).trans k3
        have hg1 := hG.er.b1.row
        rw [HA.out] at hg1
        refine store_J 22 3 24 rfl (w.heap.size + 1) R o3 v4 _ _ hg1 UR.out SR.out OR.out ?_
        have H6 : Hid (ER w g k (encS k b (n + 1)) (w'.setRow (w.heap.size + 1) R)) := Lib.hid (by rw [HR.out]; exact hG.er.put)
        generalize w'.setRow (w.heap.size + 1) R = w6 at *
        subst ha0
        simp only [Act.put, frame, tabE, fill]
        clear hV v4 o3 e4 hG hg1 k3 k7 hl CS CM CT PK UA UK UR SR SK HA HKk OK OR HR E5 HB
        go_wp2_with fail
        go_roundw
        case rel => exact ⟨n + 1, by omega, by go_num, H6.out⟩
        case measure => simp [intOf]; omega
    · have e : n = 9 := by omega
      subst e
      obtain ⟨yk1, lk1⟩ := rk_ok YK.out HK.out 10
      have la := encS_len k b 9
      have ya := YS.out 9
      have CS := Lib.hid (fun w => shift_any (encS k b 9) w la ya)
      have CT := Lib.hid (fun w => turn_any (shL (encS k b 9)) (rk k 10) w (shL_len _) lk1 (shL_by _) yk1)
      have PC := Lib.hid (show ∀ w', ER w g k (encS k b 9) w' → ∀ j v, (vec (rk k 10))[j]? = some v → w'.cell? ⟨g, 160 + j, none⟩ = some v from fun w' h => piece (show ((FL k).drop 160).take 16 = rk k 10 from FL_win YK.out HK.out (n := 10) (by omega)) h.b5)
      have UA := Lib.hid (vec_info la)
      have UK := Lib.hid (vec_info lk1)
      have UR := Lib.hid (vec_info (encL_len k b))
      obtain ⟨A, hA⟩ : ∃ A, A = vec (encS k b 9) := ⟨_, rfl⟩
      obtain ⟨S, hS⟩ : ∃ S, S = vec (shL (encS k b 9)) := ⟨_, rfl⟩
      obtain ⟨K, hK⟩ : ∃ K, K = vec (rk k 10) := ⟨_, rfl⟩
      obtain ⟨R, hR⟩ : ∃ R, R = vec (encL k b) := ⟨_, rfl⟩
      have HA := Lib.hid hA.symm
      have OR := Lib.hid (show R.all (·.oneCell') = true by rw [hR]; exact vec_one _)
      rw [← hA, ← hS] at CS
      rw [← hS, ← hK, show vec (xorL (shL (encS k b 9)) (rk k 10)) = R from hR.symm] at CT
      rw [← hK] at PC UK
      rw [← hR] at UR ZN
      rw [← hA] at UA
      have HR := Lib.hid hR
      rw [← hR]
      clear hA hS hK hR BB la ya yk1 lk1 hlt hn
      go_upto_region 8 with fail
      refine with_act fun a0 ha0 => ?_
      have hl : tabF.length = a0.tmps.size := by rw [ha0]; rfl
      have k3 : a0.tmps[3]?.getD undef = .pointer (some ⟨w.heap.size + 1, 0, none⟩) := by rw [ha0]; rfl
      have k4 : a0.tmps[4]?.getD undef = .pointer (some ⟨w.heap.size + 1 + 1, 0, none⟩) := by rw [ha0]; rfl
      have k5 : a0.tmps[5]?.getD undef = .pointer (some ⟨g, 0, none⟩) := by rw [ha0]; rfl
      refine wp_region_end 5 (by kernel_rfl) tabF (by kernel_rfl) (by kernel_rfl) hl (by kernel_rfl) (by kernel_rfl) (fun i => a0.tmps[i + 26]?.getD undef) (by rw [ha0]; rfl) (ER w g k (encS k b 9)) (FV g A S K R) ?_ (FV.keep _ _ _ _ _) ⟨?_, ?_, ?_, ?_, ?_, trivial⟩ ?_
      · exact ⟨HB.out.b1.heap rfl, HB.out.b2.heap rfl, HB.out.b5.heap rfl, HB.out.lt, HB.out.bel.drew⟩
      · refine step_plain [] (by kernel_rfl) rfl fun us w' hG hV => ?_
        have o3 := (frame_old2 (us := us) (a := a0) (show (tabF[3]?).join = none from rfl)).trans k3
        have hg1 := hG.b1.row
        rw [HA.out] at hg1
        generalize frame tabF a0 us = fr at *
        exact load_ok 22 3 rfl (w.heap.size + 1) o3 _ _ _ _ hg1 Try.underlying22 rfl UA.out hG rfl
      · refine step_plain [0] (by kernel_rfl) rfl fun us w' hG hV => ?_
        have e0 : us 0 = .agg A := hV 0 (by simp)
        have v0 := (frame_at2 (us := us) hl (show (tabF[26]?).join = some 0 from rfl)).trans e0
        generalize frame tabF a0 us = fr at *
        exact call_ok (f := 31) (args := #[.agg A]) (by go_simp) ((CS.out w').mono fun e w'' h => ⟨_, h.1, hG.below h.2, h.2, rfl⟩)
      · refine step_plain [] (by kernel_rfl) rfl fun us w' hG hV => ?_
        have o5 := (frame_old2 (us := us) (a := a0) (show (tabF[5]?).join = none from rfl)).trans k5
        generalize frame tabF a0 us = fr at *
        exact val_ok (v := .pointer (some ⟨g, 160, none⟩)) (w' := w') (by go_simp) hG (Below.refl _ _) rfl
      · refine step_plain [2] (by kernel_rfl) rfl fun us w' hG hV => ?_
        have e2 : us 2 = .pointer (some ⟨g, 160, none⟩) := hV 2 (by simp)
        have v2 := (frame_at2 (us := us) hl (show (tabF[28]?).join = some 2 from rfl)).trans e2
        have hc := PC.out w' hG
        generalize frame tabF a0 us = fr at *
        exact loadp_ok 22 28 rfl g 160 v2 K _ hc Try.underlying22 rfl UK.out hG rfl
      · refine step_plain [1, 3] (by kernel_rfl) rfl fun us w' hG hV => ?_
        have e1 : us 1 = .agg S := hV 1 (by simp)
        have v1 := (frame_at2 (us := us) hl (show (tabF[27]?).join = some 1 from rfl)).trans e1
        have e3 : us 3 = .agg K := hV 3 (by simp)
        have v3 := (frame_at2 (us := us) hl (show (tabF[29]?).join = some 3 from rfl)).trans e3
        generalize frame tabF a0 us = fr at *
        exact call_ok (f := 29) (args := #[.agg S, .agg K]) (by go_simp) ((CT.out w').mono fun e w'' h => ⟨_, h.1, hG.below h.2, h.2, rfl⟩)
      · intro us w' o ho hG hV
        obtain rfl := Option.some.inj ho
        have e4 : us 4 = .agg R := hV 4 (by decide)
        have v4 := (frame_at2 (us := us) hl (show (tabF[30]?).join = some 4 from rfl)).trans e4
        have o4 := (frame_old2 (us := us) (a := a0) (show (tabF[4]?).join = none from rfl)).trans k4
        have hg1 := hG.b2.row
        refine store_J 22 4 30 rfl (w.heap.size + 1 + 1) R o4 v4 _ _ hg1 UR.out ZN.out OR.out ?_
        have G2 := Lib.hid hg1
        have BQ := Lib.hid hG.bel
        have HSR := Lib.hid (setRow_heap w' (w.heap.size + 1 + 1) _ R _ _ hg1)
        have BF := Lib.hid (below_setRow (k := w.heap.size + 1 + 1) hG.bel (by omega) R)
        generalize w'.setRow (w.heap.size + 1 + 1) R = w6 at *
        subst ha0
        simp only [Act.put, frame, tabF, fill]
        clear hV v4 o4 e4 hG hg1 k3 k4 k5 hl CS CT PC UA UK HA OR HB
        go_wp2_with fail
        refine bodyPost_ret (v := .agg R) (results_cell_row Try.results23 _ _ (w.heap.size + 1 + 1) _ _ _ _ (by rfl) HSR.out Try.underlying22 rfl UR.out) rfl ⟨by rw [HR.out], BF.out⟩
end Go.Proofs.Ytknemkekmahdmaa.aesC
