/-
  6 texts of a proof, joined.
-/
import Derived.Test.YthbgjjfhgbkbdaaMg13

/-
  AES: the code's Round and Encrypt.
-/
namespace Go.Proofs.Ythbgjjfhgbkbdaa.aesC
open Go.ChangeShapes Go.WideShapes Go.ChangeAt Go.RowKit
open Go.Proofs.Ythbgjjfhgbkbdaa.memC Go.Proofs.Ythbgjjfhgbkbdaa.genC Go.Proofs.Ythbgjjfhgbkbdaa.aesM Go.Proofs.Ythbgjjfhgbkbdaa.freeC
set_option linter.unusedVariables false
/-- an array out of an array of arrays -/
theorem run_idx_agg {P : Program} (w : World) (t e : TypeId) (n s : Nat) (d : TypeDesc) (cs : Array Value) (k : Nat) (ht : P.underlying t = some (.array n e)) (he : P.underlying e = some d)
    (hd : (match d with | .struct _ | .array _ _ => true | _ => false) = true) (hi : (P.info? e).map (·.size) = some s) (hk : k < n) : (Instr.index t (.agg cs) (.int .i64 (k : Int))).run P w = .ok (.agg (cs.extract (k * s) (k * s + s))) w := by
  have hn : 0 ≤ (k : Int) ∧ (k : Int) < (n : Int) := by omega
  cases hq : P.info? e with
  | none => simp [hq] at hi
  | some i =>
    have hs : i.size = s := by simpa [hq] using hi
    have hagg : (isAgg e).run P w = .ok true w := by
      unfold isAgg
      rw [Sem.run_bind, run_underlying he w]
      cases d <;> simp_all
    have hp : (part e cs (k * s)).run P w = .ok (.agg (cs.extract (k * s) (k * s + s))) w := by
      simp [part, Sem.run_bind, hagg, sizeOf, typeInfo, hq, hs]
    simp [Instr.index, run_underlying ht, asIntOf, hn, sizeOf, typeInfo, hq, hs, hp, Sem.run_bind]
    omega
theorem FL_ext {k : List Nat} (hk : BY k) (hl : k.length = 16) {n : Nat} (h : n < 11) : (vec (FL k)).extract (n * 16) (n * 16 + 16) = vec (rk k n) := by
  rw [← FL_win hk hl h, Nat.mul_comm n 16]
  unfold vec
  apply Array.toList_inj.1
  simp [List.map_take, List.map_drop, List.extract_eq_take_drop]
theorem built_zero : Try.prog.built 32 [] = some (vec (zs 16)) := by kernel_rfl
theorem wpList_zero {P : Program} {ops : Array Oper} {rest : List Oper} {o : Oper} {a : Act} {w : World} {Q : Exit → Act → World → Prop} (hg : o.guard = none) (t : TypeId) (ho : o.op = .build t #[])
    (cells : Array Value) (hf : P.built t [] = some cells)
    (h : wpList P ops Q rest (a.put o.dst (.agg cells)) w) : wpList P ops Q (o :: rest) a w := by
  refine wpList_plain hg fun _ hK => ?_
  unfold Oper.wp execOp
  have hb : (Instr.build t #[]).run P w = .ok (.agg cells) w := run_build w t _ cells hf
  simp [ho, hb, Result.andThen_ok]
  exact hK _ _ h
end Go.Proofs.Ythbgjjfhgbkbdaa.aesC

/-
  AES: the code's Encrypt.
-/
namespace Go.Proofs.Ythbgjjfhgbkbdaa.aesC
open Go.ChangeShapes Go.WideShapes Go.ChangeAt Go.RowKit
open Go.Proofs.Ythbgjjfhgbkbdaa.memC Go.Proofs.Ythbgjjfhgbkbdaa.genC Go.Proofs.Ythbgjjfhgbkbdaa.aesM Go.Proofs.Ythbgjjfhgbkbdaa.freeC
set_option linter.unusedVariables false
/-- a block behind n rounds -/
def encS (k b : List Nat) : Nat → List Nat
  | 0 => xorL b (rk k 0)
  | n + 1 => xorL (mixL (shL (encS k b n))) (rk k (n + 1))
/-- a block, encrypted -/
def encL (k b : List Nat) : List Nat := xorL (shL (encS k b 9)) (rk k 10)
theorem encS_len (k b : List Nat) : ∀ n, (encS k b n).length = 16
  | 0 => xorL_len _ _
  | n + 1 => xorL_len _ _
theorem encS_by {k b : List Nat} (hk : BY k) (hl : k.length = 16) (hb : BY b) : ∀ n, BY (encS k b n)
  | 0 => xorL_by hb (rk_ok hk hl 0).1
  | n + 1 => xorL_by (mixL_by (shL_by _)) (rk_ok hk hl (n + 1)).1
theorem encL_len (k b : List Nat) : (encL k b).length = 16 := xorL_len _ _
theorem encL_by {k : List Nat} (hk : BY k) (hl : k.length = 16) (b : List Nat) : BY (encL k b) := xorL_by (shL_by _) (rk_ok hk hl 10).1
/-- a load of a piece, in a region that draws its order -/
theorem loadp_ok {P : Program} {Q : Exit → Act → World → Prop} {o : Oper} {G : World → Prop} {V : Nat → Value → World → Prop} {i : Nat} {w : World} {fr : Act} (ty : TypeId) (s : Tmp) (ho : o.op = .load ty (.tmp s)) (g q : Nat) (hx : fr.tmps[s]?.getD undef = .pointer (some ⟨g, q, none⟩)) (cs : Array Value) (d : TypeDesc)
    (hc : ∀ j v, cs[j]? = some v → w.cell? ⟨g, q + j, none⟩ = some v) (hu : P.underlying ty = some d) (hd : (match d with | .struct _ | .array _ _ => true | _ => false) = true) (hi : (P.info? ty).map (·.size) = some cs.size) (hG : G w) (hV : V i (.agg cs) w) :
    o.wp P fr w (fun a' w' => ∃ v, a' = fr.put o.dst v ∧ G w' ∧ Below w.heap.size w w' ∧ V i v w') Q := by
  have hl := Go.Proofs.Ythbgjjfhgbkbdaa.partC.run_load_part (P := P) w g q ty cs.toList d (fun j v hv => hc j v (by simpa using hv)) hu hd (by simpa using hi)
  have hx2 : fr.eval (.tmp s) = .pointer (some ⟨g, q, none⟩) := by simpa only [Act.eval, Array.getD_eq_getD_getElem?] using hx
  refine val_ok (v := .agg cs) (w' := w) ?_ hG (Below.refl _ _) hV
  unfold execOp
  simp only [ho, hx2, Instr.loadAt, Instr.sureAddr, Sem.run_bind, Sem.run_pure, Result.andThen_ok, hl]
/-- the blocks that a call of Encrypt lays -/
structure ER (w : World) (g : Nat) (k b : List Nat) (wr : World) : Prop where
  b1 : Bl 32 wr (w.heap.size + 1) b
  b2 : Bl 32 wr (w.heap.size + 1 + 1) (zs 16)
  b5 : Bl 97 wr g (FL k)
  lt : w.heap.size + 1 + 1 < g
  bel : Below w.heap.size w wr
structure ES (w : World) (g g7 : Nat) (k b y : List Nat) (wr : World) : Prop where
  er : ER w g k b wr
  b7 : Bl 32 wr g7 y
section
variable {w wr w' : World} {g g7 : Nat} {k b b' y : List Nat}
theorem ER.below (B : ER w g k b wr) (h : Below wr.heap.size wr w') : ER w g k b w' := ⟨B.b1.below h B.b1.lt, B.b2.below h B.b2.lt, B.b5.below h B.b5.lt, B.lt, B.bel.trans (h.mono B.bel.size)⟩
theorem ER.put (B : ER w g k b wr) : ER w g k b' (wr.setRow (w.heap.size + 1) (vec b')) := by
  have h := B.lt
  exact ⟨B.b1.setRow, B.b2.row_other (by omega) _, B.b5.row_other (by omega) _, h, below_setRow B.bel (by omega) _⟩
theorem ES.below (B : ES w g g7 k b y wr) (h : Below wr.heap.size wr w') : ES w g g7 k b y w' := ⟨B.er.below h, B.b7.below h B.b7.lt⟩
end
def tabE : List (Option Nat) := [none, none, none, none, none, none, none, none, none, none, none, none, none, none, none, none, none, none, none, none, some 0, some 1, some 2, some 3, some 4, none, none, none, none, none, none]
def EV (A S M K R : Array Value) : Nat → Value → World → Prop
  | 0, v, _ => v = .agg A
  | 1, v, _ => v = .agg S
  | 2, v, _ => v = .agg M
  | 3, v, _ => v = .agg K
  | 4, v, _ => v = .agg R
  | _, _, _ => True
theorem EV.keep (A S M K R : Array Value) (i : Nat) (v : Value) (w w' : World) (hb : Below w.heap.size w w') (h : EV A S M K R i v w) : EV A S M K R i v w' := by
  unfold EV at h ⊢
  split at h <;> exact h
def tabF : List (Option Nat) := [none, none, none, none, none, none, none, none, none, none, none, none, none, none, none, none, none, none, none, none, none, none, none, none, none, none, some 0, some 1, some 2, some 3, some 4]
def FV (g : Nat) (A S K R : Array Value) : Nat → Value → World → Prop
  | 0, v, _ => v = .agg A
  | 1, v, _ => v = .agg S
  | 2, v, _ => v = .pointer (some ⟨g, 160, none⟩)
  | 3, v, _ => v = .agg K
  | 4, v, _ => v = .agg R
  | _, _, _ => True
theorem FV.keep (g : Nat) (A S K R : Array Value) (i : Nat) (v : Value) (w w' : World) (hb : Below w.heap.size w w') (h : FV g A S K R i v w) : FV g A S K R i v w' := by
  unfold FV at h ⊢
  split at h <;> exact h
theorem vec_info {xs : List Nat} (h : xs.length = 16) : (Try.prog.info? 32).map (·.size) = some (vec xs).size := by rw [b16_info, vec_size, h]
set_option maxRecDepth 100000 in
set_option maxHeartbeats 1000000 in
theorem encrypt_any (k b : List Nat) (w : World) (hk : k.length = 16) (yk : BY k) (hb : b.length = 16) (yb : BY b) :
    Calls Try.prog 55 #[.agg (vec k), .agg (vec b)] w (Ret w (.agg (vec (encL k b)))) := by
  obtain ⟨X, hX⟩ : ∃ X, X = vec k := ⟨_, rfl⟩
  obtain ⟨Y, hY⟩ : ∃ Y, Y = vec b := ⟨_, rfl⟩
  obtain ⟨Z, hZ⟩ : ∃ Z, Z = vec (zs 16) := ⟨_, rfl⟩
  obtain ⟨Z2, hZ2⟩ : ∃ Z, Z = vec (zs 176) := ⟨_, rfl⟩
  obtain ⟨F, hF⟩ : ∃ F, F = vec (FL k) := ⟨_, rfl⟩
  obtain ⟨K0, hK0⟩ : ∃ K0, K0 = vec (rk k 0) := ⟨_, rfl⟩
  obtain ⟨R0, hR0⟩ : ∃ R0, R0 = vec (encS k b 0) := ⟨_, rfl⟩
  have hzv := zero16
  rw [← hZ] at hzv
  have hzv2 := zero11
  rw [← hZ2] at hzv2
  have e1 : (w.alloc (.cells X 78)).heap.size = w.heap.size + 1 := alloc_size _ _
  have e2 : ((w.alloc (.cells X 78)).alloc (.cells Y 32)).heap.size = w.heap.size + 1 + 1 := by rw [alloc_size, e1]
  obtain ⟨W, hW⟩ : ∃ W, W = ((w.alloc (.cells X 78)).alloc (.cells Y 32)).alloc (.cells Z 32) := ⟨_, rfl⟩
  have eW : W.heap.size = w.heap.size + 1 + 1 + 1 := by rw [hW, alloc_size, e2]
  have KX : Bl 78 W w.heap.size k := by rw [hW, hX]; exact ((Bl.new w _ k).alloc _).alloc _
  have KY : Bl 32 W (w.heap.size + 1) b := by rw [hW, hY, ← e1]; exact (Bl.new _ _ b).alloc _
  have KZ : Bl 32 W (w.heap.size + 1 + 1) (zs 16) := by rw [hW, hZ, ← e2]; exact Bl.new _ _ _
  have BW : Below w.heap.size w W := by rw [hW]; exact (((Below.refl _ _).alloc (Nat.le_refl _) _).alloc (by simp) _).alloc (by simp; omega) _
  have RX := Lib.hid (hX ▸ KX.row : W.heap[w.heap.size]? = some (.cells X 78 (0, 0)))
  have UX := Lib.hid (show (Try.prog.info? 78).map (·.size) = some X.size by rw [key_info, hX, vec_size, hk])
  have UF := Lib.hid (show (Try.prog.info? 97).map (·.size) = some F.size by rw [b176_info, hF, vec_size, FL_len])
  have ZF := Lib.hid (show Z2.size = F.size by rw [hZ2, hF, vec_size, vec_size, FL_len, zs_len])
  have OF := Lib.hid (show F.all (·.oneCell') = true by rw [hF]; exact vec_one _)
  have RA := Lib.hid (rounds_any k W hk yk)
  rw [← hX, ← hF] at RA
  have UB := Lib.hid (show (Try.prog.info? 32).map (·.size) = some Y.size by rw [hY]; exact vec_info hb)
  have UK0 := Lib.hid (show (Try.prog.info? 32).map (·.size) = some K0.size by rw [hK0]; exact vec_info (rk_ok yk hk 0).2)
  have UR0 := Lib.hid (show (Try.prog.info? 32).map (·.size) = some R0.size by rw [hR0]; exact vec_info (encS_len k b 0))
  have SR0 := Lib.hid (show (vec b).size = R0.size by rw [hR0, vec_size, vec_size, hb, encS_len])
  have OR0 := Lib.hid (show R0.all (·.oneCell') = true by rw [hR0]; exact vec_one _)
  have CT0 := Lib.hid (fun w => turn_any b (rk k 0) w hb (rk_ok yk hk 0).2 yb (rk_ok yk hk 0).1)
  rw [← hY, ← hK0, show vec (xorL b (rk k 0)) = R0 by rw [hR0]; rfl] at CT0
  have EY := Lib.hid hY
  have ZS := Lib.hid (show Z.size = 16 by rw [hZ, vec_size, zs_len])
  have ER0 := Lib.hid hR0
  have EF := Lib.hid hF
  have HW := Lib.hid eW
  have HKY := Lib.hid KY
  have HKZ := Lib.hid KZ
  have HBW := Lib.hid BW
  have HK := Lib.hid hk
  have YK := Lib.hid yk
  have YS := Lib.hid (encS_by yk hk yb)
  have EK0 := Lib.hid hK0
  have ZN := Lib.hid (show (vec (zs 16)).size = (vec (encL k b)).size by rw [vec_size, vec_size, encL_len, zs_len])
  rw [← hX, ← hY]
  clear hX hY hZ hZ2 hF hK0 hR0 e1 e2 eW KX KY KZ BW hk yk hb yb
  go_enter Try.func55, Try.ntmps55
  go_upto_region 1 with fail
  rw [← hW]
  clear hW
  go_upto_region 2 with (first
    | (refine wpList_load_row rfl 78 (.tmp 2) rfl w.heap.size rfl _ _ _ _ RX.out Try.underlying78 rfl UX.out ?_)
    | (go_at_call 66; (with_reducible refine RA.out.mono ?_); rintro e w1 ⟨rfl, B1⟩)
    | (refine wpList_store_row rfl 97 (.tmp 5) (.tmp 9) rfl w1.heap.size _ rfl rfl _ _ (heap_alloc_new _ _) UF.out ZF.out OF.out ?_))
  rw [World.setRow_alloc_new]
  have E2 : ER w w1.heap.size k b (w1.alloc (.cells F 97)) := by
    have hs := B1.size
    rw [HW.out] at hs
    refine ⟨(HKY.out.below B1 HKY.out.lt).alloc _, (HKZ.out.below B1 HKZ.out.lt).alloc _, ?_, by omega, (HBW.out.trans (B1.mono HBW.out.size)).alloc (by omega) _⟩
    rw [EF.out]; exact Bl.new w1 _ _
  generalize w1.alloc (.cells F 97) = W2 at *
  generalize w1.heap.size = g at *
  have H2 := Lib.hid E2
  have RY := Lib.hid (show W2.heap[w.heap.size + 1]? = some (.cells Y 32 (0, 0)) by rw [EY.out]; exact E2.b1.row)
  have PK0 := Lib.hid (show ∀ w', ER w g k b w' → ∀ j v, K0[j]? = some v → w'.cell? ⟨g, 0 + j, none⟩ = some v from fun w' h => by
    rw [EK0.out]
    exact piece (by have := FL_win YK.out HK.out (n := 0) (by omega); rw [Nat.mul_zero] at this; exact this) h.b5)
  clear B1 E2 RX UX UF ZF OF RA HKY HKZ HBW hzv2 EF
  go_upto_region 3 with (first
    | (refine wpList_load_row rfl 32 (.tmp 3) rfl (w.heap.size + 1) rfl _ _ _ _ RY.out Try.underlying32 rfl UB.out ?_)
    | (refine wpList_load_piece rfl 32 (.tmp 11) rfl g 0 rfl K0 _ (PK0.out _ H2.out) Try.underlying32 rfl UK0.out ?_)
    | (go_at_call 67; (with_reducible refine (CT0.out _).mono ?_); rintro e w3 ⟨rfl, B3⟩
       have H3 := Lib.hid (H2.out.below B3)
       clear B3)
    | (refine wpList_store_row rfl 32 (.tmp 3) (.tmp 13) rfl (w.heap.size + 1) _ rfl rfl _ _ H3.out.b1.row UR0.out SR0.out OR0.out ?_))
  have H4 : Hid (ER w g k (encS k b 0) (w3.setRow (w.heap.size + 1) R0)) := Lib.hid (by rw [ER0.out]; exact H3.out.put)
  generalize w3.setRow (w.heap.size + 1) R0 = w4 at *
  clear H2 RY PK0 H3 CT0 UR0 SR0 OR0 UK0 UB ER0 EK0 EY
  go_wp2_with fail
  go_loopw [16] (fun i wr => ∃ n : Nat, n ≤ 9 ∧ i = .int .i64 n ∧ ER w g k (encS k b n) wr) (fun i _ => 9 - (intOf i).toNat)
  case atStart => exact ⟨0, by omega, rfl, H4.out⟩
  case round =>
    obtain ⟨n, hn, rfl, BB⟩ := hrel
    have HB := Lib.hid BB
    by_cases hlt : n < 9
    · have hnz : (n : Int) < 9 := by omega
      obtain ⟨yk1, lk1⟩ := rk_ok YK.out HK.out (n + 1)
      have la := encS_len k b n
      have ya := YS.out n
      have CS := Lib.hid (fun w => shift_any (encS k b n) w la ya)
      have CM := Lib.hid (fun w => multiply_any (shL (encS k b n)) w (shL_len _) (shL_by _))
      have CT := Lib.hid (fun w => turn_any (mixL (shL (encS k b n))) (rk k (n + 1)) w (mixL_len _) lk1 (mixL_by (shL_by _)) yk1)
      have PK := Lib.hid (piece (show ((FL k).drop (16 + n * 16)).take 16 = rk k (n + 1) by rw [show 16 + n * 16 = 16 * (n + 1) by omega]; exact FL_win YK.out HK.out (by omega)) HB.out.b5)
      have UA := Lib.hid (vec_info la)
      have UK := Lib.hid (vec_info lk1)
      have UR := Lib.hid (vec_info (xorL_len (mixL (shL (encS k b n))) (rk k (n + 1))))
      have SR := Lib.hid (show (vec (encS k b n)).size = (vec (xorL (mixL (shL (encS k b n))) (rk k (n + 1)))).size by rw [vec_size, vec_size, la, xorL_len])
      have SK := Lib.hid (show Z.size = (vec (rk k (n + 1))).size by rw [ZS.out, vec_size, lk1])
      obtain ⟨A, hA⟩ : ∃ A, A = vec (encS k b n) := ⟨_, rfl⟩
      obtain ⟨S, hS⟩ : ∃ S, S = vec (shL (encS k b n)) := ⟨_, rfl⟩
      obtain ⟨M, hM⟩ : ∃ M, M = vec (mixL (shL (encS k b n))) := ⟨_, rfl⟩
      obtain ⟨K, hK⟩ : ∃ K, K = vec (rk k (n + 1)) := ⟨_, rfl⟩
      obtain ⟨R, hR⟩ : ∃ R, R = vec (xorL (mixL (shL (encS k b n))) (rk k (n + 1))) := ⟨_, rfl⟩
      have HA := Lib.hid hA.symm
      have HKk := Lib.hid hK.symm
      have OK := Lib.hid (show K.all (·.oneCell') = true by rw [hK]; exact vec_one _)
      have OR := Lib.hid (show R.all (·.oneCell') = true by rw [hR]; exact vec_one _)
      have HR := Lib.hid (show R = vec (encS k b (n + 1)) from hR)
      rw [← hA, ← hS] at CS
      rw [← hS, ← hM] at CM
      rw [← hM, ← hK, ← hR] at CT
      rw [← hK] at PK UK SK
      rw [← hR] at UR SR
      rw [← hA] at UA SR
      clear hA hS hM hK hR BB la ya yk1 lk1
      go_upto_region 6 with (first
        | (refine wpList_load_piece rfl 32 (.tmp 18) rfl g (16 + n * 16) rfl K _ PK.out Try.underlying32 rfl UK.out ?_)
        | (refine wpList_store_row rfl 32 (.tmp 7) (.tmp 19) rfl wr.heap.size _ rfl rfl _ _ (heap_alloc_new _ _) UK.out SK.out OK.out ?_))
      rw [World.setRow_alloc_new]
      have E5 : ES w g wr.heap.size k (encS k b n) (rk k (n + 1)) (wr.alloc (.cells K 32)) := ⟨HB.out.below (alloc_below _ _), by rw [← HKk.out]; exact Bl.new _ _ _⟩
      generalize wr.alloc (.cells K 32) = w5 at *
      generalize wr.heap.size = g7 at *
      refine with_act fun a0 ha0 => ?_
      have hl : tabE.length = a0.tmps.size := by rw [ha0]; rfl
      have k3 : a0.tmps[3]?.getD undef = .pointer (some ⟨w.heap.size + 1, 0, none⟩) := by rw [ha0]; rfl
      have k7 : a0.tmps[7]?.getD undef = .pointer (some ⟨g7, 0, none⟩) := by rw [ha0]; rfl
      refine wp_region_end 5 (by kernel_rfl) tabE (by kernel_rfl) (by kernel_rfl) hl (by kernel_rfl) (by kernel_rfl) (fun i => a0.tmps[i + 20]?.getD undef) (by rw [ha0]; rfl) (ES w g g7 k (encS k b n) (rk k (n + 1))) (EV A S M K R) ?_ (EV.keep _ _ _ _ _) ⟨?_, ?_, ?_, ?_, ?_, trivial⟩ ?_
      · exact ⟨⟨E5.er.b1.heap rfl, E5.er.b2.heap rfl, E5.er.b5.heap rfl, E5.er.lt, E5.er.bel.drew⟩, E5.b7.heap rfl⟩
      · refine step_plain [] (by kernel_rfl) rfl fun us w' hG hV => ?_
        have o3 := (frame_old2 (us := us) (a := a0) (show (tabE[3]?).join = none from rfl)).trans k3
        have hg1 := hG.er.b1.row
        rw [HA.out] at hg1
        generalize frame tabE a0 us = fr at *
        exact load_ok 32 3 rfl (w.heap.size + 1) o3 _ _ _ _ hg1 Try.underlying32 rfl UA.out hG rfl
      · refine step_plain [0] (by kernel_rfl) rfl fun us w' hG hV => ?_
        have e0 : us 0 = .agg A := hV 0 (by simp)
        have v0 := (frame_at2 (us := us) hl (show (tabE[20]?).join = some 0 from rfl)).trans e0
        generalize frame tabE a0 us = fr at *
        exact call_ok (f := 69) (args := #[.agg A]) (by go_simp) ((CS.out w').mono fun e w'' h => ⟨_, h.1, hG.below h.2, h.2, rfl⟩)
      · refine step_plain [1] (by kernel_rfl) rfl fun us w' hG hV => ?_
        have e1 : us 1 = .agg S := hV 1 (by simp)
        have v1 := (frame_at2 (us := us) hl (show (tabE[21]?).join = some 1 from rfl)).trans e1
        generalize frame tabE a0 us = fr at *
        exact call_ok (f := 68) (args := #[.agg S]) (by go_simp) ((CM.out w').mono fun e w'' h => ⟨_, h.1, hG.below h.2, h.2, rfl⟩)
      · refine step_plain [] (by kernel_rfl) rfl fun us w' hG hV => ?_
        have o7 := (frame_old2 (us := us) (a := a0) (show (tabE[7]?).join = none from rfl)).trans k7
        have hg7 := hG.b7.row
        rw [HKk.out] at hg7
        generalize frame tabE a0 us = fr at *
        exact load_ok 32 7 rfl g7 o7 _ _ _ _ hg7 Try.underlying32 rfl UK.out hG rfl
      · refine step_plain [2, 3] (by kernel_rfl) rfl fun us w' hG hV => ?_
        have e2 : us 2 = .agg M := hV 2 (by simp)
        have v2 := (frame_at2 (us := us) hl (show (tabE[22]?).join = some 2 from rfl)).trans e2
        have e3 : us 3 = .agg K := hV 3 (by simp)
        have v3 := (frame_at2 (us := us) hl (show (tabE[23]?).join = some 3 from rfl)).trans e3
        generalize frame tabE a0 us = fr at *
        exact call_ok (f := 67) (args := #[.agg M, .agg K]) (by go_simp) ((CT.out w').mono fun e w'' h => ⟨_, h.1, hG.below h.2, h.2, rfl⟩)
      · intro us w' o ho hG hV
        obtain rfl := Option.some.inj ho
        have e4 : us 4 = .agg R := hV 4 (by decide)
        have v4 := (frame_at2 (us := us) hl (show (tabE[24]?).join = some 4 from rfl)).trans e4
        have o3 := (frame_old2 (us := us) (a := a0) (show (tabE[3]?).join = none from rfl)).trans k3
        have hg1 := hG.er.b1.row
        rw [HA.out] at hg1
        refine store_J 32 3 24 rfl (w.heap.size + 1) R o3 v4 _ _ hg1 UR.out SR.out OR.out ?_
        have H6 : Hid (ER w g k (encS k b (n + 1)) (w'.setRow (w.heap.size + 1) R)) := Lib.hid (by rw [HR.out]; exact hG.er.put)
        generalize w'.setRow (w.heap.size + 1) R = w6 at *
        subst ha0
        simp only [Act.put, frame, tabE, fill]
        clear hV v4 o3 e4 hG hg1 k3 k7 hl CS CM CT PK UA UK UR SR SK HA HKk OK OR HR E5 HB
        go_wp2_with fail
        go_roundw
        case rel => exact ⟨n + 1, by omega, by go_num, H6.out⟩
        case measure => simp [intOf]; omega
    · have e : n = 9 := by omega
      subst e
      obtain ⟨yk1, lk1⟩ := rk_ok YK.out HK.out 10
      have la := encS_len k b 9
      have ya := YS.out 9
      have CS := Lib.hid (fun w => shift_any (encS k b 9) w la ya)
      have CT := Lib.hid (fun w => turn_any (shL (encS k b 9)) (rk k 10) w (shL_len _) lk1 (shL_by _) yk1)
      have PC := Lib.hid (show ∀ w', ER w g k (encS k b 9) w' → ∀ j v, (vec (rk k 10))[j]? = some v → w'.cell? ⟨g, 160 + j, none⟩ = some v from fun w' h => piece (show ((FL k).drop 160).take 16 = rk k 10 from FL_win YK.out HK.out (n := 10) (by omega)) h.b5)
      have UA := Lib.hid (vec_info la)
      have UK := Lib.hid (vec_info lk1)
      have UR := Lib.hid (vec_info (encL_len k b))
      obtain ⟨A, hA⟩ : ∃ A, A = vec (encS k b 9) := ⟨_, rfl⟩
      obtain ⟨S, hS⟩ : ∃ S, S = vec (shL (encS k b 9)) := ⟨_, rfl⟩
      obtain ⟨K, hK⟩ : ∃ K, K = vec (rk k 10) := ⟨_, rfl⟩
      obtain ⟨R, hR⟩ : ∃ R, R = vec (encL k b) := ⟨_, rfl⟩
      have HA := Lib.hid hA.symm
      have OR := Lib.hid (show R.all (·.oneCell') = true by rw [hR]; exact vec_one _)
      rw [← hA, ← hS] at CS
      rw [← hS, ← hK, show vec (xorL (shL (encS k b 9)) (rk k 10)) = R from hR.symm] at CT
      rw [← hK] at PC UK
      rw [← hR] at UR ZN
      rw [← hA] at UA
      have HR := Lib.hid hR
      rw [← hR]
      clear hA hS hK hR BB la ya yk1 lk1 hlt hn
      go_upto_region 8 with fail
      refine with_act fun a0 ha0 => ?_
      have hl : tabF.length = a0.tmps.size := by rw [ha0]; rfl
      have k3 : a0.tmps[3]?.getD undef = .pointer (some ⟨w.heap.size + 1, 0, none⟩) := by rw [ha0]; rfl
      have k4 : a0.tmps[4]?.getD undef = .pointer (some ⟨w.heap.size + 1 + 1, 0, none⟩) := by rw [ha0]; rfl
      have k5 : a0.tmps[5]?.getD undef = .pointer (some ⟨g, 0, none⟩) := by rw [ha0]; rfl
      refine wp_region_end 5 (by kernel_rfl) tabF (by kernel_rfl) (by kernel_rfl) hl (by kernel_rfl) (by kernel_rfl) (fun i => a0.tmps[i + 26]?.getD undef) (by rw [ha0]; rfl) (ER w g k (encS k b 9)) (FV g A S K R) ?_ (FV.keep _ _ _ _ _) ⟨?_, ?_, ?_, ?_, ?_, trivial⟩ ?_
      · exact ⟨HB.out.b1.heap rfl, HB.out.b2.heap rfl, HB.out.b5.heap rfl, HB.out.lt, HB.out.bel.drew⟩
      · refine step_plain [] (by kernel_rfl) rfl fun us w' hG hV => ?_
        have o3 := (frame_old2 (us := us) (a := a0) (show (tabF[3]?).join = none from rfl)).trans k3
        have hg1 := hG.b1.row
        rw [HA.out] at hg1
        generalize frame tabF a0 us = fr at *
        exact load_ok 32 3 rfl (w.heap.size + 1) o3 _ _ _ _ hg1 Try.underlying32 rfl UA.out hG rfl
      · refine step_plain [0] (by kernel_rfl) rfl fun us w' hG hV => ?_
        have e0 : us 0 = .agg A := hV 0 (by simp)
        have v0 := (frame_at2 (us := us) hl (show (tabF[26]?).join = some 0 from rfl)).trans e0
        generalize frame tabF a0 us = fr at *
        exact call_ok (f := 69) (args := #[.agg A]) (by go_simp) ((CS.out w').mono fun e w'' h => ⟨_, h.1, hG.below h.2, h.2, rfl⟩)
      · refine step_plain [] (by kernel_rfl) rfl fun us w' hG hV => ?_
        have o5 := (frame_old2 (us := us) (a := a0) (show (tabF[5]?).join = none from rfl)).trans k5
        generalize frame tabF a0 us = fr at *
        exact val_ok (v := .pointer (some ⟨g, 160, none⟩)) (w' := w') (by go_simp) hG (Below.refl _ _) rfl
      · refine step_plain [2] (by kernel_rfl) rfl fun us w' hG hV => ?_
        have e2 : us 2 = .pointer (some ⟨g, 160, none⟩) := hV 2 (by simp)
        have v2 := (frame_at2 (us := us) hl (show (tabF[28]?).join = some 2 from rfl)).trans e2
        have hc := PC.out w' hG
        generalize frame tabF a0 us = fr at *
        exact loadp_ok 32 28 rfl g 160 v2 K _ hc Try.underlying32 rfl UK.out hG rfl
      · refine step_plain [1, 3] (by kernel_rfl) rfl fun us w' hG hV => ?_
        have e1 : us 1 = .agg S := hV 1 (by simp)
        have v1 := (frame_at2 (us := us) hl (show (tabF[27]?).join = some 1 from rfl)).trans e1
        have e3 : us 3 = .agg K := hV 3 (by simp)
        have v3 := (frame_at2 (us := us) hl (show (tabF[29]?).join = some 3 from rfl)).trans e3
        generalize frame tabF a0 us = fr at *
        exact call_ok (f := 67) (args := #[.agg S, .agg K]) (by go_simp) ((CT.out w').mono fun e w'' h => ⟨_, h.1, hG.below h.2, h.2, rfl⟩)
      · intro us w' o ho hG hV
        obtain rfl := Option.some.inj ho
        have e4 : us 4 = .agg R := hV 4 (by decide)
        have v4 := (frame_at2 (us := us) hl (show (tabF[30]?).join = some 4 from rfl)).trans e4
        have o4 := (frame_old2 (us := us) (a := a0) (show (tabF[4]?).join = none from rfl)).trans k4
        have hg1 := hG.b2.row
        refine store_J 32 4 30 rfl (w.heap.size + 1 + 1) R o4 v4 _ _ hg1 UR.out ZN.out OR.out ?_
        have G2 := Lib.hid hg1
        have BQ := Lib.hid hG.bel
        have HSR := Lib.hid (setRow_heap w' (w.heap.size + 1 + 1) _ R _ _ hg1)
        have BF := Lib.hid (below_setRow (k := w.heap.size + 1 + 1) hG.bel (by omega) R)
        generalize w'.setRow (w.heap.size + 1 + 1) R = w6 at *
        subst ha0
        simp only [Act.put, frame, tabF, fill]
        clear hV v4 o4 e4 hG hg1 k3 k4 k5 hl CS CT PC UA UK HA OR HB
        go_wp2_with fail
        refine bodyPost_ret (v := .agg R) (results_cell_row Try.results55 _ _ (w.heap.size + 1 + 1) _ _ _ _ (by rfl) HSR.out Try.underlying32 rfl UR.out) rfl ⟨by rw [HR.out], BF.out⟩
end Go.Proofs.Ythbgjjfhgbkbdaa.aesC

/-
  CMAC over numbers: a block doubled, blocks chained, the MAC.
-/
namespace Go.Proofs.Ythbgjjfhgbkbdaa.aesC
open Go.Proofs.Ythbgjjfhgbkbdaa.genC Go.Proofs.Ythbgjjfhgbkbdaa.aesM
set_option linter.unusedVariables false
/-- a byte of a block that goes to the left -/
def low (b : List Nat) (i : Nat) : Nat := b.getD i 0 * 2 % 256 + b.getD (i + 1) 0 / 128
def lowL (b : List Nat) : List Nat := (List.range 16).map (low b)
/-- its last byte -/
def topB (b : List Nat) : Nat := b.getD 15 0 * 2 % 256 ^^^ b.getD 0 0 / 128 * 135
/-- a block doubled -/
def dL (b : List Nat) : List Nat := (lowL b).set 15 (topB b)
theorem bit7 {x : Nat} (h : x < 256) : x / 128 = 0 ∨ x / 128 = 1 := by omega
theorem low_lt {b : List Nat} (h : BY b) (i : Nat) : low b i < 256 := by
  have := h.at (i + 1)
  unfold low; omega
theorem lowL_len (b : List Nat) : (lowL b).length = 16 := by simp [lowL]
theorem lowL_by {b : List Nat} (h : BY b) : BY (lowL b) := BY.map fun i _ => low_lt h i
theorem topB_lt {b : List Nat} (h : BY b) : topB b < 256 := by
  have := h.at 0
  exact xor_lt (Nat.mod_lt _ (by decide)) (by omega)
theorem dL_len (b : List Nat) : (dL b).length = 16 := by unfold dL; rw [List.length_set, lowL_len]
theorem BY.set {xs : List Nat} (h : BY xs) (j : Nat) {x : Nat} (hx : x < 256) : BY (xs.set j x) := by
  intro y hy
  rcases List.mem_or_eq_of_mem_set hy with h1 | rfl
  · exact h y h1
  · exact hx
theorem dL_by {b : List Nat} (h : BY b) : BY (dL b) := (lowL_by h).set 15 (topB_lt h)
theorem getD_out {a : List Nat} {i : Nat} (h : a.length ≤ i) : a.getD i 0 = 0 := by
  rw [List.getD_eq_getElem?_getD, List.getElem?_eq_none h]; rfl
theorem low_last {b : List Nat} (h : b.length = 16) : low b 15 = b.getD 15 0 * 2 % 256 := by
  unfold low
  rw [getD_out (i := 15 + 1) (by omega)]
  simp
theorem dL_at {b : List Nat} {i : Nat} (h : i < 15) : (dL b).getD i 0 = low b i := by
  unfold dL
  rw [List.getD_eq_getElem?_getD, List.getElem?_set_ne (by omega), ← List.getD_eq_getElem?_getD]
  exact getD_map (by omega)
theorem dL_top (b : List Nat) : (dL b).getD 15 0 = topB b := by
  unfold dL
  rw [List.getD_eq_getElem?_getD, List.getElem?_set_self (by rw [lowL_len]; decide)]
  rfl
theorem top_eq {x y u v : Nat} (hu : u = 0 ∨ u = 1) (hv : v = 0 ∨ v = 1) (h : x * 2 % 256 ^^^ u * 135 = y * 2 % 256 ^^^ v * 135) : u = v ∧ x * 2 % 256 = y * 2 % 256 := by
  have par : ∀ z w : Nat, (z * 2 % 256 ^^^ w * 135) % 2 = w % 2 := by
    intro z w
    have h1 := Nat.xor_mod_two_pow (a := z * 2 % 256) (b := w * 135) (n := 1)
    rw [show (2 : Nat) ^ 1 = 2 from rfl] at h1
    rw [h1, show z * 2 % 256 % 2 = 0 by omega, Nat.zero_xor]; omega
  have e : u = v := by
    have h1 := par x u
    have h2 := par y v
    rw [h] at h1
    omega
  subst e
  refine ⟨rfl, ?_⟩
  have h2 : (x * 2 % 256 ^^^ u * 135) ^^^ u * 135 = (y * 2 % 256 ^^^ u * 135) ^^^ u * 135 := by rw [h]
  rwa [Nat.xor_assoc, Nat.xor_assoc, Nat.xor_self, Nat.xor_zero, Nat.xor_zero] at h2
theorem getD_ext {a b : List Nat} (h : a.length = b.length) (he : ∀ i, i < a.length → a.getD i 0 = b.getD i 0) : a = b := by
  apply List.ext_getElem? 
  intro i
  rcases Nat.lt_or_ge i a.length with h1 | h1
  · rw [getD_eq h1, getD_eq (by omega), he i h1]
  · rw [List.getElem?_eq_none h1, List.getElem?_eq_none (by omega)]
/-- no two blocks are doubled to one -/
theorem dL_inj {a b : List Nat} (ya : BY a) (yb : BY b) (la : a.length = 16) (lb : b.length = 16) (h : dL a = dL b) : a = b := by
  have ht : topB a = topB b := by rw [← dL_top, h, dL_top]
  obtain ⟨e0, e15⟩ := top_eq (bit7 (ya.at 0)) (bit7 (yb.at 0)) ht
  have hi : ∀ i, i < 15 → low a i = low b i := fun i h1 => by rw [← dL_at h1, h, dL_at h1]
  have lo : ∀ i, i < 15 → a.getD i 0 % 128 = b.getD i 0 % 128 ∧ a.getD (i + 1) 0 / 128 = b.getD (i + 1) 0 / 128 := by
    intro i h1
    have := hi i h1
    unfold low at this
    have h2 := ya.at (i + 1)
    have h3 := yb.at (i + 1)
    omega
  refine getD_ext (by omega) fun i h1 => ?_
  have hm : a.getD i 0 % 128 = b.getD i 0 % 128 := by
    rcases Nat.lt_or_ge i 15 with h2 | h2
    · exact (lo i h2).1
    · obtain rfl : i = 15 := by omega
      omega
  have hd : a.getD i 0 / 128 = b.getD i 0 / 128 := by
    rcases Nat.eq_zero_or_pos i with rfl | h2
    · exact e0
    · have := (lo (i - 1) (by omega)).2
      rwa [show i - 1 + 1 = i by omega] at this
  omega
/-- block n of some bytes, 0s behind them -/
def blkL (bs : List Nat) (n : Nat) : List Nat := (List.range 16).map fun i => bs.getD (16 * n + i) 0
theorem blkL_len (bs : List Nat) (n : Nat) : (blkL bs n).length = 16 := by simp [blkL]
theorem blkL_by {bs : List Nat} (h : BY bs) (n : Nat) : BY (blkL bs n) := BY.map fun i _ => h.at _
theorem blkL_at {bs : List Nat} {n i : Nat} (h : i < 16) : (blkL bs n).getD i 0 = bs.getD (16 * n + i) 0 := getD_map h
theorem blkL_eq {a b : List Nat} {n : Nat} (h : ∀ i, i < 16 → a.getD (16 * n + i) 0 = b.getD (16 * n + i) 0) : blkL a n = blkL b n := by
  unfold blkL
  exact List.map_congr_left fun i hi => h i (List.mem_range.1 hi)
theorem getD_left {a b : List Nat} {i : Nat} (h : i < a.length) : (a ++ b).getD i 0 = a.getD i 0 := by
  rw [List.getD_eq_getElem?_getD, List.getElem?_append_left h, ← List.getD_eq_getElem?_getD]
theorem getD_right {a b : List Nat} {i : Nat} (h : a.length ≤ i) : (a ++ b).getD i 0 = b.getD (i - a.length) 0 := by
  rw [List.getD_eq_getElem?_getD, List.getElem?_append_right h, ← List.getD_eq_getElem?_getD]
theorem zs_at (n i : Nat) : (zs n).getD i 0 = 0 := by
  rw [List.getD_eq_getElem?_getD]
  unfold zs
  rw [List.getElem?_replicate]
  split <;> rfl
/-- 0s behind tell nothing -/
theorem blkL_zs (a : List Nat) (j n : Nat) : blkL (a ++ zs j) n = blkL a n := by
  refine blkL_eq fun i hi => ?_
  rcases Nat.lt_or_ge (16 * n + i) a.length with h | h
  · exact getD_left h
  · rw [getD_right h, zs_at, getD_out h]
theorem blkL_none {a : List Nat} {n : Nat} (h : a.length ≤ 16 * n) : blkL a n = zs 16 := by
  refine getD_ext (by rw [blkL_len, zs_len]) fun i hi => ?_
  rw [blkL_len] at hi
  rw [blkL_at hi, zs_at, getD_out (by omega)]
/-- the first n blocks, chained -/
def cbc (k bs : List Nat) : Nat → List Nat
  | 0 => zs 16
  | n + 1 => encL k (xorL (cbc k bs n) (blkL bs n))
theorem cbc_len (k bs : List Nat) : ∀ n, (cbc k bs n).length = 16
  | 0 => zs_len 16
  | n + 1 => encL_len _ _
theorem cbc_by {k : List Nat} (hk : BY k) (hl : k.length = 16) (bs : List Nat) : ∀ n, BY (cbc k bs n)
  | 0 => zs_by 16
  | n + 1 => encL_by hk hl _
theorem cbc_eq (k : List Nat) {a b : List Nat} : ∀ n, (∀ i, i < 16 * n → a.getD i 0 = b.getD i 0) → cbc k a n = cbc k b n
  | 0, _ => rfl
  | n + 1, h => by
    rw [cbc, cbc_eq k n fun i hi => h i (by omega), blkL_eq fun i hi => h (16 * n + i) (by omega)]; rfl
theorem cbc_app (k a b : List Nat) {n : Nat} (h : 16 * n ≤ a.length) : cbc k (a ++ b) n = cbc k a n := cbc_eq k n fun i hi => getD_left (by omega)
/-- a key's two blocks -/
def oneL (k : List Nat) : List Nat := dL (encL k (zs 16))
def twoL (k : List Nat) : List Nat := dL (oneL k)
theorem oneL_len (k : List Nat) : (oneL k).length = 16 := dL_len _
theorem twoL_len (k : List Nat) : (twoL k).length = 16 := dL_len _
theorem oneL_by {k : List Nat} (hk : BY k) (hl : k.length = 16) : BY (oneL k) := dL_by (encL_by hk hl _)
theorem twoL_by {k : List Nat} (hk : BY k) (hl : k.length = 16) : BY (twoL k) := dL_by (oneL_by hk hl)
/-- how many blocks stand ahead of the last one -/
def fullN (bs : List Nat) : Nat := (bs.length - 1) / 16
/-- the last block, turned -/
def lastL (k bs : List Nat) : List Nat := if bs.length = 16 * fullN bs + 16 then xorL (blkL bs (fullN bs)) (oneL k) else xorL (blkL (bs ++ [128]) (fullN bs)) (twoL k)
/-- the MAC -/
def macL (k bs : List Nat) : List Nat := encL k (xorL (cbc k bs (fullN bs)) (lastL k bs))
theorem macL_len (k bs : List Nat) : (macL k bs).length = 16 := encL_len _ _
theorem macL_by {k : List Nat} (hk : BY k) (hl : k.length = 16) (bs : List Nat) : BY (macL k bs) := encL_by hk hl _
theorem fullN_of {bs : List Nat} {n q : Nat} (h : bs.length = 16 * n + q) (hq : q ≤ 16) (h0 : q = 0 → n = 0) : fullN bs = n := by unfold fullN; omega
theorem macL_whole {k bs : List Nat} {n : Nat} (h : bs.length = 16 * n + 16) : macL k bs = encL k (xorL (cbc k bs n) (xorL (blkL bs n) (oneL k))) := by
  have e : fullN bs = n := fullN_of h (by omega) (by omega)
  unfold macL lastL
  rw [e, if_pos h]
theorem macL_part {k bs : List Nat} {n q : Nat} (h : bs.length = 16 * n + q) (hq : q < 16) (h0 : q = 0 → n = 0) : macL k bs = encL k (xorL (cbc k bs n) (xorL (blkL (bs ++ [128]) n) (twoL k))) := by
  have e : fullN bs = n := fullN_of h (by omega) h0
  unfold macL lastL
  rw [e, if_neg (by omega)]
theorem xorL_at {a b : List Nat} {i : Nat} (h : i < 16) : (xorL a b).getD i 0 = a.getD i 0 ^^^ b.getD i 0 := getD_map h
theorem xorL_assoc (a b c : List Nat) : xorL (xorL a b) c = xorL a (xorL b c) := by
  refine getD_ext (by rw [xorL_len, xorL_len]) fun i hi => ?_
  rw [xorL_len] at hi
  rw [xorL_at hi, xorL_at hi, xorL_at hi, xorL_at hi, Nat.xor_assoc]
theorem xorL_twice (a b c : List Nat) : xorL (xorL a (xorL b c)) b = xorL a c := by
  refine getD_ext (by rw [xorL_len, xorL_len]) fun i hi => ?_
  rw [xorL_len] at hi
  rw [xorL_at hi, xorL_at hi, xorL_at hi, xorL_at hi, Nat.xor_assoc, Nat.xor_comm (b.getD i 0), Nat.xor_assoc, Nat.xor_self, Nat.xor_zero]
/-- bytes filled, the last block turned by the key's two -/
theorem macL_filled {k bs cs : List Nat} {n q : Nat} (h : bs.length = 16 * n + q) (hq : q < 16) (h0 : q = 0 → n = 0) (hc : cs.length = 16 * n + 16)
    (ha : ∀ i, i < 16 * n → cs.getD i 0 = bs.getD i 0) (hb : ∀ i, i < 16 → cs.getD (16 * n + i) 0 = (bs ++ [128]).getD (16 * n + i) 0 ^^^ ((oneL k).getD i 0 ^^^ (twoL k).getD i 0)) : macL k cs = macL k bs := by
  rw [macL_whole hc, macL_part h hq h0, cbc_eq k n ha]
  have e : blkL cs n = xorL (blkL (bs ++ [128]) n) (xorL (oneL k) (twoL k)) := by
    refine getD_ext (by rw [blkL_len, xorL_len]) fun i hi => ?_
    rw [blkL_len] at hi
    rw [blkL_at hi, xorL_at hi, blkL_at hi, xorL_at hi, hb i hi]
  rw [e, xorL_twice]
/-- numbers as they lie in memory -/
def nats (ys : List Int) : List Nat := ys.map Int.toNat
theorem nats_len (ys : List Int) : (nats ys).length = ys.length := by simp [nats]
theorem nats_app (xs ys : List Int) : nats (xs ++ ys) = nats xs ++ nats ys := by simp [nats]
theorem nats_by {ys : List Int} (h : ∀ x ∈ ys, Byte x) : BY (nats ys) := by
  intro x hx
  obtain ⟨y, hy, rfl⟩ := List.mem_map.1 hx
  obtain ⟨h1, h2⟩ := h y hy
  omega
theorem nats_vec {ys : List Int} (h : ∀ x ∈ ys, Byte x) : ys.map (Value.int .u8) = (nats ys).map fun n : Nat => Value.int .u8 (n : Int) := by
  unfold nats
  rw [List.map_map]
  refine List.map_congr_left fun y hy => ?_
  show Value.int .u8 y = Value.int .u8 (y.toNat : Int)
  rw [Int.toNat_of_nonneg (h y hy).1]
theorem nats_at {ys : List Int} (h : ∀ x ∈ ys, Byte x) (i : Nat) : ys.getD i 0 = (((nats ys).getD i 0 : Nat) : Int) := by
  unfold nats
  rw [List.getD_eq_getElem?_getD, List.getD_eq_getElem?_getD, List.getElem?_map]
  rcases Nat.lt_or_ge i ys.length with h1 | h1
  · rw [List.getElem?_eq_getElem h1]
    show ys[i] = (ys[i].toNat : Int)
    rw [Int.toNat_of_nonneg (h _ (List.getElem_mem _)).1]
  · rw [List.getElem?_eq_none h1]; rfl
theorem ints_nats (ns : List Nat) : nats (ns.map fun n : Nat => (n : Int)) = ns := by
  unfold nats
  rw [List.map_map]
  exact (List.map_congr_left fun n _ => rfl).trans (List.map_id _)
end Go.Proofs.Ythbgjjfhgbkbdaa.aesC

/-
  CMAC: a block turned by another one; the code's Double.
-/
namespace Go.Proofs.Ythbgjjfhgbkbdaa.aesC
open Go.ChangeShapes Go.WideShapes Go.ChangeAt Go.RowKit
open Go.Proofs.Ythbgjjfhgbkbdaa.memC Go.Proofs.Ythbgjjfhgbkbdaa.genC Go.Proofs.Ythbgjjfhgbkbdaa.aesM
set_option linter.unusedVariables false
set_option maxRecDepth 100000 in
set_option maxHeartbeats 1000000 in
theorem cturn_any (a b : List Nat) (w : World) (ha : a.length = 16) (hb : b.length = 16) (ya : BY a) (yb : BY b) :
    Calls Try.prog 42 #[.agg (vec a), .agg (vec b)] w (Ret w (.agg (vec (xorL a b)))) := by
  have T0 := Lib.hid (b3_new w a b (zs 16))
  obtain ⟨X, hX⟩ : ∃ X, X = vec a := ⟨_, rfl⟩
  obtain ⟨Y, hY⟩ : ∃ Y, Y = vec b := ⟨_, rfl⟩
  obtain ⟨Z, hZ⟩ : ∃ Z, Z = vec (zs 16) := ⟨_, rfl⟩
  rw [← hX, ← hY]
  have hzv := zero16
  rw [← hZ] at hzv
  obtain ⟨W, hW⟩ : ∃ W, W = ((w.alloc (.cells X 32)).alloc (.cells Y 32)).alloc (.cells Z 32) := ⟨_, rfl⟩
  have T1 : Hid (B3 w a b (zs 16) W) := Lib.hid (by rw [hW, hX, hY, hZ]; exact T0.out)
  have HL := Lib.hid (xorL_len a b)
  have L1 := Lib.hid ha
  have L2 := Lib.hid hb
  have U1 := Lib.hid (show (Try.prog.info? 32).map (·.size) = some (vec (xorL a b)).size by rw [b16_info, vec_size, xorL_len])
  clear T0 ha hb hX hY hZ
  go_enter Try.func42, Try.ntmps42
  go_upto_region 1 with fail
  rw [← hW]
  clear hW hzv
  go_wp2_with fail
  go_loopw [6] (fun i wr => ∃ k : Nat, k ≤ 16 ∧ i = .int .i64 k ∧ B3 w (mixP (xorL a b) a k) b (zs 16) wr) (fun i _ => 16 - (intOf i).toNat)
  case atStart => exact ⟨0, by omega, rfl, by rw [mixP_zero]; exact T1.out⟩
  case round =>
    obtain ⟨k, hk, rfl, BB⟩ := hrel
    have hlen : (xorL a b).length = a.length := by rw [HL.out, L1.out]
    have HB := Lib.hid BB
    by_cases hlt : k < 16
    · have hkz : (k : Int) < 16 := by omega
      have c0 := BB.b0.cell (j := k) (by rw [mixP_len hlen, L1.out]; exact hlt)
      rw [mixP_old hlen (Nat.le_refl _)] at c0
      have c1 := BB.b1.cell (j := k) (by rw [L2.out]; exact hlt)
      have f0 := BB.b0.frozen k
      have hst := HB.out.s0 k ((xorL a b).getD k 0)
      rw [mixP_set hlen (by rw [L1.out]; exact hlt)] at hst
      have hxe : (xorL a b).getD k 0 = a.getD k 0 ^^^ b.getD k 0 := getD_map hlt
      have hx := xor_b (ya.at k) (yb.at k)
      rw [hxe, ← hx] at hst
      have HS := Lib.hid hst
      generalize a.getD k 0 = x at *
      generalize b.getD k 0 = y at *
      clear hst hx hxe BB hlen
      go_upto_region 4 with fail
      go_still_tail 8, (by kernel_rfl)
      change wpList _ _ _ _ _ wr.drew
      go_wp2_with fail
      go_roundw
      case rel =>
        refine ⟨k + 1, by omega, by go_num, ?_⟩
        exact HS.out.heap rfl rfl rfl rfl
      case measure => simp [intOf]; omega
    · have e : k = 16 := by omega
      subst e
      have hf : mixP (xorL a b) a 16 = xorL a b := by have := mixP_full hlen; rwa [L1.out] at this
      rw [hf] at BB
      have G1 := Lib.hid BB.b0.row
      have G2 := Lib.hid BB.b2.row
      have BQ := Lib.hid BB.bel
      clear BB HB hlen hf hlt hk
      go_wp2_with (first
        | (refine wpList_load_row rfl 32 (.tmp 2) rfl w.heap.size rfl _ _ _ _ G1.out Try.underlying32 rfl U1.out ?_)
        | (refine wpList_store_row rfl 32 (.tmp 4) (.tmp 18) rfl (w.heap.size + 1 + 1) _ rfl rfl _ _ G2.out U1.out (by rw [vec_size, vec_size, HL.out]; rfl) (vec_one _) ?_))
      refine bodyPost_ret (v := .agg (vec (xorL a b))) (results_cell_row Try.results42 _ _ (w.heap.size + 1 + 1) _ _ _ _ (by rfl) (setRow_heap _ _ _ _ _ _ G2.out) Try.underlying32 rfl U1.out) rfl ⟨rfl, ?_⟩
      exact below_setRow BQ.out (by omega) _
theorem NG.s0 {w wr : World} {k : List Nat} (B : NG w k wr) (j x : Nat) : NG w (k.set j x) (wr.setCell ⟨w.heap.size, j, none⟩ (.int .u8 (x : Int))) :=
  ⟨B.b0.stored j x, B.b1.other (by show w.heap.size ≠ w.heap.size + 1; omega) _, B.bel.setCell (p := ⟨w.heap.size, j, none⟩) (Nat.le_refl _) _⟩
/-- a byte that goes to the left -/
theorem left_b {x y : Nat} (hx : x < 256) (hy : y < 256) : bits .or .u8 ((x : Int) * 2 % 256) ((y : Int) / 128) = ((x * 2 % 256 + y / 128 : Nat) : Int) := by
  have h1 : y / 128 < 2 ^ 1 := by omega
  have h2 := Nat.shiftLeft_add_eq_or_of_lt h1 (x % 128)
  rw [show (x : Int) * 2 % 256 = ((x * 2 % 256 : Nat) : Int) by omega, show (y : Int) / 128 = ((y / 128 : Nat) : Int) by omega, or_b (Nat.mod_lt _ (by decide)) (by omega)]
  rw [Nat.shiftLeft_eq, show x % 128 * 2 ^ 1 = x * 2 % 256 by omega] at h2
  rw [h2]
theorem dL_mix {a : List Nat} (h : a.length = 16) : (mixP (lowL a) a 15).set 15 (topB a) = dL a := by
  have e : (lowL a).length = a.length := by rw [lowL_len, h]
  refine getD_ext (by rw [List.length_set, mixP_len e, dL_len, h]) fun i hi => ?_
  rw [List.length_set, mixP_len e, h] at hi
  rcases Nat.lt_or_ge i 15 with h1 | h1
  · rw [dL_at h1, List.getD_eq_getElem?_getD, List.getElem?_set_ne (by omega), ← List.getD_eq_getElem?_getD, mixP_new e h1]
    exact getD_map hi
  · obtain rfl : i = 15 := by omega
    rw [dL_top, List.getD_eq_getElem?_getD, List.getElem?_set_self (by rw [mixP_len e, h]; decide)]
    rfl
set_option maxRecDepth 100000 in
set_option maxHeartbeats 1000000 in
theorem cdouble_any (a : List Nat) (w : World) (ha : a.length = 16) (ya : BY a) :
    Calls Try.prog 54 #[.agg (vec a)] w (Ret w (.agg (vec (dL a)))) := by
  have T0 := Lib.hid (ng_new w a)
  obtain ⟨X, hX⟩ : ∃ X, X = vec a := ⟨_, rfl⟩
  obtain ⟨Z, hZ⟩ : ∃ Z, Z = vec (zs 16) := ⟨_, rfl⟩
  rw [← hX]
  have hzv := zero16
  rw [← hZ] at hzv
  obtain ⟨W, hW⟩ : ∃ W, W = (w.alloc (.cells X 32)).alloc (.cells Z 32) := ⟨_, rfl⟩
  have T1 : Hid (NG w a W) := Lib.hid (by rw [hW, hX, hZ]; exact T0.out)
  have L1 := Lib.hid ha
  have U1 := Lib.hid (show (Try.prog.info? 32).map (·.size) = some (vec (dL a)).size by rw [b16_info, vec_size, dL_len])
  have c00 := T1.out.b0.cell (j := 0) (by rw [ha]; decide)
  have y0 := ya.at 0
  obtain ⟨h, hh⟩ : ∃ h, h = a.getD 0 0 / 128 := ⟨_, rfl⟩
  have HH := Lib.hid hh
  obtain ⟨x0, hx0⟩ : ∃ x0, x0 = a.getD 0 0 := ⟨_, rfl⟩
  rw [← hx0] at c00 y0
  have hz : (x0 : Int) / 128 = (h : Int) := by omega
  have h2 : (h : Int) ≤ 1 := by omega
  obtain ⟨m, hm⟩ : ∃ m, m = h * 135 := ⟨_, rfl⟩
  have hmz : (h : Int) * 135 = (m : Int) := by omega
  have hm2 : (m : Int) ≤ 135 := by omega
  have HM := Lib.hid hm
  clear T0 ha hX hZ hh hx0 hm
  go_enter Try.func54, Try.ntmps54
  go_upto_region 1 with fail
  rw [← hW]
  clear hW hzv
  go_upto_region 2 with fail
  clear c00 hz y0
  go_wp2_with fail
  go_loopw [8] (fun i wr => ∃ k : Nat, k ≤ 15 ∧ i = .int .i64 k ∧ NG w (mixP (lowL a) a k) wr) (fun i _ => 15 - (intOf i).toNat)
  case atStart => exact ⟨0, by omega, rfl, by rw [mixP_zero]; exact T1.out⟩
  case round =>
    obtain ⟨k, hk, rfl, BB⟩ := hrel
    have hlen : (lowL a).length = a.length := by rw [lowL_len, L1.out]
    have HB := Lib.hid BB
    by_cases hlt : k < 15
    · have hkz : (k : Int) < 15 := by omega
      obtain ⟨k1, hk1⟩ : ∃ k1, k1 = k + 1 := ⟨_, rfl⟩
      have hk1z : (k : Int) + 1 = (k1 : Int) := by omega
      have hk16 : (k1 : Int) < 16 := by omega
      have hk0 : (k : Int) < 16 := by omega
      have hkw : IntKind.i64.wrap (k1 : Int) = (k1 : Int) := IntWalk.i64_in _ (by omega)
      have c0 := BB.b0.cell (j := k) (by rw [mixP_len hlen, L1.out]; omega)
      rw [mixP_old hlen (Nat.le_refl _)] at c0
      have c1 := BB.b0.cell (j := k1) (by rw [mixP_len hlen, L1.out]; omega)
      rw [mixP_old hlen (by omega)] at c1
      have f0 := BB.b0.frozen k
      have hst := HB.out.s0 k ((lowL a).getD k 0)
      rw [mixP_set hlen (by rw [L1.out]; omega)] at hst
      have hxe : (lowL a).getD k 0 = a.getD k 0 * 2 % 256 + a.getD k1 0 / 128 := by rw [hk1]; exact getD_map (by omega)
      have hx := left_b (ya.at k) (ya.at k1)
      have y0 := ya.at k
      have y1 := ya.at k1
      rw [hxe, ← hx] at hst
      have HS := Lib.hid hst
      have HK1 := Lib.hid hk1
      generalize a.getD k 0 = x at *
      generalize a.getD k1 0 = y at *
      clear hst hx hxe BB hlen hk1
      go_upto_region 5 with fail
      go_still_tail 12, (by kernel_rfl)
      change wpList _ _ _ _ _ wr.drew
      go_wp2_with fail
      go_roundw
      case rel =>
        refine ⟨k + 1, by omega, by go_num, ?_⟩
        exact HS.out.heap rfl rfl rfl rfl
      case measure => simp [intOf]; omega
    · have e : k = 15 := by omega
      subst e
      have c15 := BB.b0.cell (j := 15) (by rw [mixP_len hlen, L1.out]; decide)
      rw [mixP_old hlen (Nat.le_refl _)] at c15
      have f15 := BB.b0.frozen 15
      have hst := HB.out.s0 15 (topB a)
      rw [dL_mix L1.out] at hst
      have hx : bits .xor .u8 ((a.getD 15 0 : Int) * 2 % 256) (m : Int) = ((topB a : Nat) : Int) := by
        rw [show (a.getD 15 0 : Int) * 2 % 256 = ((a.getD 15 0 * 2 % 256 : Nat) : Int) by omega, xor_b (Nat.mod_lt _ (by decide)) (by omega), HM.out, HH.out]
        rfl
      have y15 := ya.at 15
      have HT := Lib.hid hst
      generalize a.getD 15 0 = x at *
      generalize topB a = z at *
      clear hst BB HB hlen hlt hk
      go_upto_region 8 with fail
      generalize wr.setCell ⟨w.heap.size, 15, none⟩ (.int .u8 (z : Int)) = w8 at *
      have G1 := Lib.hid HT.out.b0.row
      have G2 := Lib.hid HT.out.b1.row
      have BQ := Lib.hid HT.out.bel
      clear hx c15 f15 y15
      go_wp2_with (first
        | (refine wpList_load_row rfl 32 (.tmp 1) rfl w.heap.size rfl _ _ _ _ G1.out Try.underlying32 rfl U1.out ?_)
        | (refine wpList_store_row rfl 32 (.tmp 2) (.tmp 31) rfl (w.heap.size + 1) _ rfl rfl _ _ G2.out U1.out (by rw [vec_size, vec_size, dL_len]; rfl) (vec_one _) ?_))
      refine bodyPost_ret (v := .agg (vec (dL a))) (results_cell_row Try.results54 _ _ (w.heap.size + 1) _ _ _ _ (by rfl) (setRow_heap _ _ _ _ _ _ G2.out) Try.underlying32 rfl U1.out) rfl ⟨rfl, ?_⟩
      exact below_setRow BQ.out (by omega) _
end Go.Proofs.Ythbgjjfhgbkbdaa.aesC

/-
  A region that draws its order, all of whose operations but the last only make memory; each is waited for by a later one, so the last one comes last.
-/
namespace Go.Proofs.Ythbgjjfhgbkbdaa.freeC
open Go.ChangeShapes Go.WideShapes Go.ChangeAt Go.RowKit
set_option linter.unusedVariables false
section
variable {P : Program} {L : List Oper} {Q : Exit → Act → World → Prop}
theorem done_more {o : Oper} {m m' : Nat → Bool} (h : doneB o m = true) (hm : ∀ j, m j = true → m' j = true) : doneB o m' = true := by
  unfold doneB at h ⊢
  rw [Array.all_eq_true'] at h ⊢
  intro e he
  have := h e he
  cases hb : Region.binds .any e with
  | false => rfl
  | true => rw [hb] at this; simpa using hm e.on (by simpa using this)
/-- each of the first n is waited for by a later one -/
def coverB (n : Nat) (L : List Oper) : Bool := (List.range n).all fun i => (List.range (n + 1)).any fun j => decide (i < j) && (match L[j]? with | some o => needs o [i] | none => false)
theorem cover_all {n : Nat} (hc : coverB n L = true) {m : Nat → Bool} (hm : ∀ i o, L[i]? = some o → m i = true → doneB o m = true) {o : Oper} (ho : L[n]? = some o) (hd : doneB o m = true) : ∀ k i, i < n → n - i ≤ k → m i = true
  | 0, i, hi, hk => by omega
  | k + 1, i, hi, hk => by
    have h1 := List.all_eq_true.1 hc i (List.mem_range.2 hi)
    obtain ⟨j, hj, h2⟩ := List.any_eq_true.1 h1
    have hj2 := List.mem_range.1 hj
    simp only [Bool.and_eq_true, decide_eq_true_eq] at h2
    obtain ⟨hij, h3⟩ := h2
    cases hL : L[j]? with
    | none => rw [hL] at h3; cases h3
    | some o2 =>
      rw [hL] at h3
      by_cases e : j = n
      · subst e
        rw [ho] at hL
        obtain rfl := Option.some.inj hL
        exact need_ok h3 hd i (by simp)
      · have hmj := cover_all hc hm ho hd k j (by omega) (by omega)
        exact need_ok h3 (hm j o2 hL hmj) i (by simp)
theorem wp_region_cov {id : Nat} {a : Act} {w : World} (n : Nat) (hm : P.follows .mixedOrders = true) (tab : List (Option Nat)) (hb : backE L = true) (ht : slots tab L = true) (hl : tab.length = a.tmps.size)
    (hn : L.length = n + 1) (hw : (match L[n]? with | some o => o.guard.isNone | none => false) = true) (hc : coverB n L = true)
    (us0 : Nat → Value) (ha : frame tab a us0 = a) (G : World → Prop) (V : Nat → Value → World → Prop) (hG : G w.drew) (hkeep : ∀ i v w w', Below w.heap.size w w' → V i v w → V i v w')
    (hstep : UpFrom (Step P L Q tab a G V) n 0 L)
    (hlast : ∀ us w o, L[n]? = some o → G w → (∀ i, i < n → V i (us i) w) → o.wp P (frame tab a us) w (fun a' w' => ∃ v, a' = (frame tab a us).put o.dst v ∧ Q .normal ((frame tab a us).put o.dst v) w') Q) : (Code.region id L.toArray true).wp P Q a w := by
  refine wp_region_free hm tab hb ht hl us0 ha (fun m us w => (∀ i o, L[i]? = some o → m i = true → doneB o m = true) ∧ ((m n = false ∧ G w ∧ ∀ j, m j = true → V j (us j) w) ∨ (m n = true ∧ (∀ j, j < n → m j = true) ∧ Q .normal (frame tab a us) w))) ⟨fun i o _ h => (by cases h), .inl ⟨rfl, hG, fun j h => by cases h⟩⟩ ?_ ?_
  · intro i o ho m us w' ⟨hcl, hJ⟩ hmi hd
    have hil : i < n + 1 := by rw [← hn]; exact (List.getElem?_eq_some_iff.1 ho).1
    have hput : ∀ us v, (frame tab a us).put o.dst v = frame tab a (upd us i v) := by
      intro us v
      have h1 := List.all_eq_true.1 ht i (List.mem_range.2 (by omega))
      rw [ho] at h1
      exact frame_put us h1 hl v
    have hgrow : ∀ j, m j = true → upd m i true j = true := by
      intro j hj
      by_cases e : j = i
      · subst e; exact upd_same _ _ _
      · rw [upd_other _ _ e]; exact hj
    have hcl2 : ∀ j o2, L[j]? = some o2 → upd m i true j = true → doneB o2 (upd m i true) = true := by
      intro j o2 h2 hj
      by_cases e : j = i
      · subst e
        rw [ho] at h2
        obtain rfl := Option.some.inj h2
        exact done_more hd hgrow
      · rw [upd_other _ _ e] at hj
        exact done_more (hcl j o2 h2 hj) hgrow
    rcases hJ with ⟨hmn, hg, hv⟩ | ⟨hmn, hall, _⟩
    · by_cases e : i = n
      · subst e
        rw [ho] at hw
        simp only [Option.isNone_iff_eq_none] at hw
        have hall : ∀ j, j < i → m j = true := fun j hj => cover_all hc hcl ho hd (i - j) j hj (Nat.le_refl _)
        rw [if_pos (show Region.wanted o (yielded L.toArray (frame tab a us).tmps) = true by simp [Region.wanted, hw])]
        have hs := hlast us w' o ho hg fun j hj => hv j (hall j hj)
        refine Oper.wp_mono (fun a2 w2 h2 => ?_) hs
        obtain ⟨v, ha, h2⟩ := h2
        refine ⟨v, ha, hcl2, .inr ⟨upd_same _ _ _, fun j hj => by rw [upd_other _ _ (by omega)]; exact hall j hj, ?_⟩⟩
        rw [← hput us v]; exact h2
      · have hs := up_from n L 0 hstep i o (by omega) ho m us w' hg hv hd
        rw [Nat.zero_add] at hs
        have hset : ∀ v w'', Below w'.heap.size w' w'' → V i v w'' → ∀ j, upd m i true j = true → V j (upd us i v j) w'' := by
          intro v w'' hb hvi j hj
          by_cases e : j = i
          · subst e; rw [upd_same]; exact hvi
          · rw [upd_other _ _ e]; rw [upd_other _ _ e] at hj; exact hkeep _ _ _ _ hb (hv j hj)
        have hmn2 : upd m i true n = false := by rw [upd_other _ _ (fun h => e h.symm)]; exact hmn
        split
        · rename_i hw2
          rw [if_pos hw2] at hs
          refine Oper.wp_mono (fun a2 w2 h2 => ?_) hs
          obtain ⟨v, ha, hg2, hb2, hv2⟩ := h2
          exact ⟨v, ha, hcl2, .inl ⟨hmn2, hg2, hset v w2 hb2 hv2⟩⟩
        · rename_i hw2
          rw [if_neg hw2] at hs
          exact ⟨hcl2, .inl ⟨hmn2, hg, hset undef w' (Below.refl _ _) hs⟩⟩
    · exfalso
      by_cases e : i = n
      · subst e; rw [hmn] at hmi; cases hmi
      · rw [hall i (by omega)] at hmi; cases hmi
  · intro m us w' hm ⟨_, hJ⟩
    rcases hJ with ⟨hmn, _⟩ | ⟨_, _, hq⟩
    · rw [hm n (by omega)] at hmn; cases hmn
    · exact hq
end
end Go.Proofs.Ythbgjjfhgbkbdaa.freeC

/-
  CMAC: a chain in memory; a block mixed in.
-/
namespace Go.Proofs.Ythbgjjfhgbkbdaa.aesC
open Go.ChangeShapes Go.WideShapes Go.ChangeAt Go.RowKit
open Go.Proofs.Ythbgjjfhgbkbdaa.memC Go.Proofs.Ythbgjjfhgbkbdaa.genC Go.Proofs.Ythbgjjfhgbkbdaa.aesM Go.Proofs.Ythbgjjfhgbkbdaa.butC Go.Proofs.Ythbgjjfhgbkbdaa.freeC
set_option linter.unusedVariables false
def vl (xs : List Nat) : List Value := xs.map fun n : Nat => Value.int .u8 (n : Int)
theorem vl_len (xs : List Nat) : (vl xs).length = xs.length := by simp [vl]
theorem vec_vl (xs : List Nat) : vec xs = (vl xs).toArray := rfl
theorem vl_app (a b : List Nat) : vl (a ++ b) = vl a ++ vl b := by simp [vl]
theorem vl_one {xs : List Nat} {v : Value} (h : v ∈ vl xs) : v.oneCell' = true := by
  obtain ⟨z, _, rfl⟩ := List.mem_map.1 h; rfl
/-- a chain's cells: the key, the MAC, the rest, how many bytes of it there are -/
def chC (k m r : List Nat) (h : Nat) : List Value := vl k ++ (vl m ++ (vl r ++ [.int .i64 (h : Int)]))
theorem chC_len {k m r : List Nat} (lk : k.length = 16) (lm : m.length = 16) (lr : r.length = 16) (h : Nat) : (chC k m r h).length = 49 := by
  simp [chC, vl_len, lk, lm, lr]
structure Chain (w : World) (g : Nat) (k m r : List Nat) (h : Nat) : Prop where
  row : w.heap[g]? = some (.cells (chC k m r h).toArray 81 (0, 0))
  lk : k.length = 16
  lm : m.length = 16
  lr : r.length = 16
theorem at_mid {a b c : List Value} {n j : Nat} {v : Value} (hn : a.length = n) (h : b[j]? = some v) : (a ++ (b ++ c))[n + j]? = some v := by
  have hj := (List.getElem?_eq_some_iff.1 h).1
  rw [List.getElem?_append_right (by omega), hn, show n + j - n = j by omega, List.getElem?_append_left hj, h]
section
variable {w w' : World} {g : Nat} {k m r : List Nat} {h : Nat}
theorem Chain.lt (H : Chain w g k m r h) : g < w.heap.size := by
  rcases Nat.lt_or_ge g w.heap.size with h1 | h1
  · exact h1
  · have := H.row; rw [Array.getElem?_eq_none h1] at this; cases this
theorem Chain.cell (H : Chain w g k m r h) {j : Nat} {v : Value} (hv : (chC k m r h)[j]? = some v) : w.cell? ⟨g, j, none⟩ = some v := by
  rw [cell_of_row w g j _ _ (0, 0) H.row]; simpa using hv
theorem Chain.key (H : Chain w g k m r h) (j : Nat) (v : Value) (hv : (vec k)[j]? = some v) : w.cell? ⟨g, 0 + j, none⟩ = some v :=
  H.cell (at_mid (a := []) rfl (by simpa [vec_vl] using hv))
theorem Chain.mac (H : Chain w g k m r h) (j : Nat) (v : Value) (hv : (vec m)[j]? = some v) : w.cell? ⟨g, 16 + j, none⟩ = some v :=
  H.cell (at_mid (by rw [vl_len, H.lk]) (by simpa [vec_vl] using hv))
theorem chC_rest (k m r : List Nat) (h : Nat) : chC k m r h = (vl k ++ vl m) ++ (vl r ++ [.int .i64 (h : Int)]) := by unfold chC; rw [List.append_assoc]
theorem chC_has (k m r : List Nat) (h : Nat) : chC k m r h = (vl k ++ (vl m ++ vl r)) ++ ([.int .i64 (h : Int)] ++ []) := by unfold chC; simp
theorem Chain.rest (H : Chain w g k m r h) (j : Nat) (v : Value) (hv : (vec r)[j]? = some v) : w.cell? ⟨g, 32 + j, none⟩ = some v :=
  H.cell (by rw [chC_rest]; exact at_mid (by rw [List.length_append, vl_len, vl_len, H.lk, H.lm]) (by simpa [vec_vl] using hv))
theorem Chain.has (H : Chain w g k m r h) : w.cell? ⟨g, 48, none⟩ = some (.int .i64 (h : Int)) :=
  H.cell (by rw [chC_has]; exact at_mid (j := 0) (by simp [vl_len, H.lk, H.lm, H.lr]) rfl)
theorem Chain.frozen (H : Chain w g k m r h) (j : Nat) : w.frozen? ⟨g, j, none⟩ = false := frozen_of_row w g j _ _ H.row
theorem Chain.heap (H : Chain w g k m r h) (e : w'.heap = w.heap) : Chain w' g k m r h := ⟨by rw [e]; exact H.row, H.lk, H.lm, H.lr⟩
theorem Chain.below {B : Nat} (H : Chain w g k m r h) (hb : Below B w w') (hg : g < B) : Chain w' g k m r h := ⟨by rw [hb.block g hg]; exact H.row, H.lk, H.lm, H.lr⟩
theorem put_mac (lk : k.length = 16) (lm : m.length = 16) {m' : List Nat} (lm' : m'.length = 16) (r : List Nat) (h : Nat) :
    ((chC k m r h).toArray.toList.take 16 ++ (vec m').toList ++ (chC k m r h).toArray.toList.drop (16 + (vec m').size)).toArray = (chC k m' r h).toArray := by
  congr 1
  simp only [vec_vl, List.size_toArray, vl_len, lm']
  unfold chC
  have e1 : (vl k ++ (vl m ++ (vl r ++ [Value.int .i64 (h : Int)]))).take 16 = vl k := List.take_left' (by rw [vl_len, lk])
  have e2 : (vl k ++ (vl m ++ (vl r ++ [Value.int .i64 (h : Int)]))).drop (16 + 16) = vl r ++ [Value.int .i64 (h : Int)] := by
    rw [← List.append_assoc]; exact List.drop_left' (by rw [List.length_append, vl_len, vl_len, lk, lm])
  rw [e1, e2, List.append_assoc]
theorem put_rest (lk : k.length = 16) (lm : m.length = 16) (lr : r.length = 16) {r' : List Nat} (lr' : r'.length = 16) (h : Nat) :
    ((chC k m r h).toArray.toList.take 32 ++ (vec r').toList ++ (chC k m r h).toArray.toList.drop (32 + (vec r').size)).toArray = (chC k m r' h).toArray := by
  congr 1
  simp only [vec_vl, List.size_toArray, vl_len, lr']
  have e1 : (chC k m r h).take 32 = vl k ++ vl m := by rw [chC_rest]; exact List.take_left' (by rw [List.length_append, vl_len, vl_len, lk, lm])
  have e2 : (chC k m r h).drop (32 + 16) = [.int .i64 (h : Int)] := by
    rw [chC_rest, ← List.append_assoc]; exact List.drop_left' (by simp [vl_len, lk, lm, lr])
  rw [e1, e2, chC_rest, List.append_assoc]
theorem Chain.putMac (H : Chain w g k m r h) {m' : List Nat} (l : m'.length = 16) : Chain (w.setRow g (chC k m' r h).toArray) g k m' r h := ⟨setRow_heap _ _ _ _ _ _ H.row, H.lk, l, H.lr⟩
theorem Chain.putRest (H : Chain w g k m r h) {r' : List Nat} (l : r'.length = 16) : Chain (w.setRow g (chC k m r' h).toArray) g k m r' h := ⟨setRow_heap _ _ _ _ _ _ H.row, H.lk, H.lm, l⟩
theorem Chain.putHas (H : Chain w g k m r h) (h' : Nat) : Chain (w.setCell ⟨g, 48, none⟩ (.int .i64 (h' : Int))) g k m r h' := by
  refine ⟨?_, H.lk, H.lm, H.lr⟩
  rw [heap_setCell_same w g 48 _ _ _ H.row]
  congr 2
  have e : (chC k m r h).set 48 (.int .i64 (h' : Int)) = chC k m r h' := by
    rw [chC_has, chC_has, List.set_append_right _ _ (by simp [vl_len, H.lk, H.lm, H.lr])]
    simp [vl_len, H.lk, H.lm, H.lr]
  rw [← e]; simp
end
theorem chain_info : (Try.prog.info? 81).map (·.size) = some 49 := by kernel_rfl
theorem zero16_built : Try.prog.built 32 [] = some (vec (zs 16)) := by kernel_rfl
/-- a store of a piece, that ends a region -/
theorem storep_J {P : Program} {Q : Exit → Act → World → Prop} {o : Oper} {w : World} {R : Value → World → Prop} {fr : Act} (ty : TypeId) (s x : Tmp) (ho : o.op = .store ty (.tmp s) (.tmp x)) (g q : Nat) (cells : Array Value) (hs : fr.tmps[s]?.getD undef = .pointer (some ⟨g, q, none⟩)) (hx : fr.tmps[x]?.getD undef = .agg cells)
    (t : TypeId) (old : Array Value) (hg : w.heap[g]? = some (.cells old t (0, 0))) (hi : (P.info? ty).map (·.size) = some cells.size) (hold : q + cells.size ≤ old.size) (h1 : cells.all (·.oneCell') = true)
    (new : Array Value) (hn : (old.toList.take q ++ cells.toList ++ old.toList.drop (q + cells.size)).toArray = new) (hR : R undef (w.setRow g new)) :
    o.wp P fr w (fun a' w' => ∃ v, a' = fr.put o.dst v ∧ R v w') Q := by
  have hl := Go.Proofs.Ythbgjjfhgbkbdaa.partC.run_store_part (P := P) w g q t ty old cells hg hi hold h1
  rw [hn] at hl
  have hs2 : fr.eval (.tmp s) = .pointer (some ⟨g, q, none⟩) := by simpa only [Act.eval, Array.getD_eq_getD_getElem?] using hs
  have hx2 : fr.eval (.tmp x) = .agg cells := by simpa only [Act.eval, Array.getD_eq_getD_getElem?] using hx
  refine free_skip (w' := w.setRow g new) ?_ ⟨undef, rfl, hR⟩
  unfold execOp
  simp only [ho, hs2, hx2, Instr.storeAt, Instr.sureAddr, Sem.run_bind, Sem.run_pure, Result.andThen_ok, hl]
/-- a chain, and that no other block turned -/
structure CH (w : World) (g : Nat) (k m r : List Nat) (h : Nat) (wr : World) : Prop where
  ch : Chain wr g k m r h
  but : But g w wr
section
variable {w wr w' : World} {g : Nat} {k m r : List Nat} {h : Nat}
theorem CH.below (B : CH w g k m r h wr) (hb : Below wr.heap.size wr w') : CH w g k m r h w' := ⟨B.ch.below hb B.ch.lt, B.but.trans (But.below hb)⟩
theorem CH.heap (B : CH w g k m r h wr) (e : w'.heap = wr.heap) (e1 : w'.os = wr.os) (e2 : w'.tape = wr.tape) (e3 : w'.output = wr.output) : CH w g k m r h w' := ⟨B.ch.heap e, B.but.heap e e1 e2 e3⟩
end
def MixRet (w : World) (g : Nat) (k m r : List Nat) (e : Ending) (w' : World) : Prop := e = .returned (.tuple #[]) ∧ CH w g k (encL k (xorL m r)) (zs 16) 0 w'
def MV (g : Nat) (K M R X Y : Array Value) : Nat → Value → World → Prop
  | 0, v, _ => v = .pointer (some ⟨g, 0, none⟩)
  | 1, v, _ => v = .pointer (some ⟨g, 0, none⟩)
  | 2, v, _ => v = .pointer (some ⟨g, 0, none⟩)
  | 3, v, _ => v = .pointer (some ⟨g, 0, none⟩)
  | 4, v, _ => v = .agg K
  | 5, v, _ => v = .pointer (some ⟨g, 0, none⟩)
  | 6, v, _ => v = .pointer (some ⟨g, 0, none⟩)
  | 7, v, _ => v = .pointer (some ⟨g, 16, none⟩)
  | 8, v, _ => v = .agg M
  | 9, v, _ => v = .pointer (some ⟨g, 0, none⟩)
  | 10, v, _ => v = .pointer (some ⟨g, 0, none⟩)
  | 11, v, _ => v = .pointer (some ⟨g, 32, none⟩)
  | 12, v, _ => v = .agg R
  | 13, v, _ => v = .agg X
  | 14, v, _ => v = .agg Y
  | 15, v, _ => v = .pointer (some ⟨g, 0, none⟩)
  | 16, v, _ => v = .pointer (some ⟨g, 16, none⟩)
  | _, _, _ => True
theorem MV.keep (g : Nat) (K M R X Y : Array Value) (i : Nat) (v : Value) (w w' : World) (hb : Below w.heap.size w w') (h : MV g K M R X Y i v w) : MV g K M R X Y i v w' := by
  unfold MV at h ⊢
  split at h <;> exact h
def tabM : List (Option Nat) := [none, none, some 0, some 1, some 2, some 3, some 4, some 5, some 6, some 7, some 8, some 9, some 10, some 11, some 12, some 13, some 14, some 15, some 16, none, none, none, none, none, none, none]
set_option maxRecDepth 100000 in
set_option maxHeartbeats 1000000 in
theorem mix_any (g : Nat) (k m r : List Nat) (h : Nat) (w : World) (H : Chain w g k m r h) (yk : BY k) (ym : BY m) (yr : BY r) :
    Calls Try.prog 43 #[.pointer (some ⟨g, 0, none⟩)] w (MixRet w g k m r) := by
  have lg := H.lt
  have C0 : Hid (CH w g k m r h w) := Lib.hid ⟨H, But.refl _⟩
  obtain ⟨K, hK⟩ : ∃ K, K = vec k := ⟨_, rfl⟩
  obtain ⟨M, hM⟩ : ∃ M, M = vec m := ⟨_, rfl⟩
  obtain ⟨R, hR⟩ : ∃ R, R = vec r := ⟨_, rfl⟩
  obtain ⟨X, hX⟩ : ∃ X, X = vec (xorL m r) := ⟨_, rfl⟩
  obtain ⟨Y, hY⟩ : ∃ Y, Y = vec (encL k (xorL m r)) := ⟨_, rfl⟩
  have HK := Lib.hid hK.symm
  have HM := Lib.hid hM.symm
  have HR := Lib.hid hR.symm
  have HY := Lib.hid hY.symm
  have LK := Lib.hid H.lk
  have LM := Lib.hid H.lm
  have LR := Lib.hid H.lr
  have UK := Lib.hid (show (Try.prog.info? 78).map (·.size) = some K.size by rw [key_info, hK, vec_size, H.lk])
  have UM := Lib.hid (show (Try.prog.info? 32).map (·.size) = some M.size by rw [hM]; exact vec_info H.lm)
  have UR := Lib.hid (show (Try.prog.info? 32).map (·.size) = some R.size by rw [hR]; exact vec_info H.lr)
  have UY := Lib.hid (show (Try.prog.info? 32).map (·.size) = some Y.size by rw [hY]; exact vec_info (encL_len _ _))
  have CT := Lib.hid (fun w => cturn_any m r w H.lm H.lr ym yr)
  have CE := Lib.hid (fun w => encrypt_any k (xorL m r) w H.lk yk (xorL_len _ _) (xorL_by ym yr))
  rw [← hM, ← hR, ← hX] at CT
  rw [← hK, ← hX, ← hY] at CE
  have YS := Lib.hid (show Y.size = 16 by rw [hY, vec_size, encL_len])
  have OY := Lib.hid (show Y.all (·.oneCell') = true by rw [hY]; exact vec_one _)
  have hzb := Lib.hid zero16_built
  obtain ⟨Z, hZ⟩ : ∃ Z, Z = vec (zs 16) := ⟨_, rfl⟩
  rw [← hZ] at hzb
  have UZ := Lib.hid (show (Try.prog.info? 32).map (·.size) = some Z.size by rw [hZ]; exact vec_info (zs_len 16))
  have OZ := Lib.hid (show Z.all (·.oneCell') = true by rw [hZ]; exact vec_one _)
  have ZSz := Lib.hid (show Z.size = 16 by rw [hZ, vec_size, zs_len])
  have HZ := Lib.hid hZ
  clear hK hM hR hX hY hZ H yk ym yr
  go_enter Try.func43, Try.ntmps43
  go_upto_region 0 with fail
  refine with_act fun a0 ha0 => ?_
  have hl : tabM.length = a0.tmps.size := by rw [ha0]; rfl
  have k0 : a0.tmps[0]?.getD undef = .pointer (some ⟨g, 0, none⟩) := by rw [ha0]; rfl
  refine wp_region_cov 17 (by kernel_rfl) tabM (by kernel_rfl) (by kernel_rfl) hl (by kernel_rfl) (by kernel_rfl) (by kernel_rfl) (fun i => a0.tmps[i + 2]?.getD undef) (by rw [ha0]; rfl) (CH w g k m r h) (MV g K M R X Y) ?_ (MV.keep _ _ _ _ _ _) ⟨?_, ?_, ?_, ?_, ?_, ?_, ?_, ?_, ?_, ?_, ?_, ?_, ?_, ?_, ?_, ?_, ?_, trivial⟩ ?_
  · exact C0.out.heap rfl rfl rfl rfl
  · refine step_plain [] (by kernel_rfl) rfl fun us w' hG hV => ?_
    have o0 := (frame_old2 (us := us) (a := a0) (show (tabM[0]?).join = none from rfl)).trans k0
    generalize frame tabM a0 us = fr at *
    exact val_ok (v := .pointer (some ⟨g, 0, none⟩)) (w' := w') (by go_simp) hG (Below.refl _ _) rfl
  · refine step_plain [] (by kernel_rfl) rfl fun us w' hG hV => ?_
    have o0 := (frame_old2 (us := us) (a := a0) (show (tabM[0]?).join = none from rfl)).trans k0
    generalize frame tabM a0 us = fr at *
    exact val_ok (v := .pointer (some ⟨g, 0, none⟩)) (w' := w') (by go_simp) hG (Below.refl _ _) rfl
  · refine step_plain [1] (by kernel_rfl) rfl fun us w' hG hV => ?_
    have e1 : us 1 = .pointer (some ⟨g, 0, none⟩) := hV 1 (by simp)
    have v1 := (frame_at2 (us := us) hl (show (tabM[3]?).join = some 1 from rfl)).trans e1
    generalize frame tabM a0 us = fr at *
    exact val_ok (v := .pointer (some ⟨g, 0, none⟩)) (w' := w') (by go_simp) hG (Below.refl _ _) rfl
  · refine step_plain [2] (by kernel_rfl) rfl fun us w' hG hV => ?_
    have e2 : us 2 = .pointer (some ⟨g, 0, none⟩) := hV 2 (by simp)
    have v2 := (frame_at2 (us := us) hl (show (tabM[4]?).join = some 2 from rfl)).trans e2
    generalize frame tabM a0 us = fr at *
    exact val_ok (v := .pointer (some ⟨g, 0, none⟩)) (w' := w') (by go_simp) hG (Below.refl _ _) rfl
  · refine step_plain [3] (by kernel_rfl) rfl fun us w' hG hV => ?_
    have e3 : us 3 = .pointer (some ⟨g, 0, none⟩) := hV 3 (by simp)
    have v3 := (frame_at2 (us := us) hl (show (tabM[5]?).join = some 3 from rfl)).trans e3
    have hc : ∀ j v, K[j]? = some v → w'.cell? ⟨g, 0 + j, none⟩ = some v := fun j v hv => hG.ch.key j v (by rw [HK.out]; exact hv)
    generalize frame tabM a0 us = fr at *
    exact loadp_ok 78 5 rfl g 0 v3 K _ hc Try.underlying78 rfl UK.out hG rfl
  · refine step_plain [] (by kernel_rfl) rfl fun us w' hG hV => ?_
    have o0 := (frame_old2 (us := us) (a := a0) (show (tabM[0]?).join = none from rfl)).trans k0
    generalize frame tabM a0 us = fr at *
    exact val_ok (v := .pointer (some ⟨g, 0, none⟩)) (w' := w') (by go_simp) hG (Below.refl _ _) rfl
  · refine step_plain [5] (by kernel_rfl) rfl fun us w' hG hV => ?_
    have e5 : us 5 = .pointer (some ⟨g, 0, none⟩) := hV 5 (by simp)
    have v5 := (frame_at2 (us := us) hl (show (tabM[7]?).join = some 5 from rfl)).trans e5
    generalize frame tabM a0 us = fr at *
    exact val_ok (v := .pointer (some ⟨g, 0, none⟩)) (w' := w') (by go_simp) hG (Below.refl _ _) rfl
  · refine step_plain [6] (by kernel_rfl) rfl fun us w' hG hV => ?_
    have e6 : us 6 = .pointer (some ⟨g, 0, none⟩) := hV 6 (by simp)
    have v6 := (frame_at2 (us := us) hl (show (tabM[8]?).join = some 6 from rfl)).trans e6
    generalize frame tabM a0 us = fr at *
    exact val_ok (v := .pointer (some ⟨g, 16, none⟩)) (w' := w') (by go_simp) hG (Below.refl _ _) rfl
  · refine step_plain [7] (by kernel_rfl) rfl fun us w' hG hV => ?_
    have e7 : us 7 = .pointer (some ⟨g, 16, none⟩) := hV 7 (by simp)
    have v7 := (frame_at2 (us := us) hl (show (tabM[9]?).join = some 7 from rfl)).trans e7
    have hc : ∀ j v, M[j]? = some v → w'.cell? ⟨g, 16 + j, none⟩ = some v := fun j v hv => hG.ch.mac j v (by rw [HM.out]; exact hv)
    generalize frame tabM a0 us = fr at *
    exact loadp_ok 32 9 rfl g 16 v7 M _ hc Try.underlying32 rfl UM.out hG rfl
  · refine step_plain [] (by kernel_rfl) rfl fun us w' hG hV => ?_
    have o0 := (frame_old2 (us := us) (a := a0) (show (tabM[0]?).join = none from rfl)).trans k0
    generalize frame tabM a0 us = fr at *
    exact val_ok (v := .pointer (some ⟨g, 0, none⟩)) (w' := w') (by go_simp) hG (Below.refl _ _) rfl
  · refine step_plain [9] (by kernel_rfl) rfl fun us w' hG hV => ?_
    have e9 : us 9 = .pointer (some ⟨g, 0, none⟩) := hV 9 (by simp)
    have v9 := (frame_at2 (us := us) hl (show (tabM[11]?).join = some 9 from rfl)).trans e9
    generalize frame tabM a0 us = fr at *
    exact val_ok (v := .pointer (some ⟨g, 0, none⟩)) (w' := w') (by go_simp) hG (Below.refl _ _) rfl
  · refine step_plain [10] (by kernel_rfl) rfl fun us w' hG hV => ?_
    have e10 : us 10 = .pointer (some ⟨g, 0, none⟩) := hV 10 (by simp)
    have v10 := (frame_at2 (us := us) hl (show (tabM[12]?).join = some 10 from rfl)).trans e10
    generalize frame tabM a0 us = fr at *
    exact val_ok (v := .pointer (some ⟨g, 32, none⟩)) (w' := w') (by go_simp) hG (Below.refl _ _) rfl
  · refine step_plain [11] (by kernel_rfl) rfl fun us w' hG hV => ?_
    have e11 : us 11 = .pointer (some ⟨g, 32, none⟩) := hV 11 (by simp)
    have v11 := (frame_at2 (us := us) hl (show (tabM[13]?).join = some 11 from rfl)).trans e11
    have hc : ∀ j v, R[j]? = some v → w'.cell? ⟨g, 32 + j, none⟩ = some v := fun j v hv => hG.ch.rest j v (by rw [HR.out]; exact hv)
    generalize frame tabM a0 us = fr at *
    exact loadp_ok 32 13 rfl g 32 v11 R _ hc Try.underlying32 rfl UR.out hG rfl
  · refine step_plain [8, 12] (by kernel_rfl) rfl fun us w' hG hV => ?_
    have e8 : us 8 = .agg M := hV 8 (by simp)
    have v8 := (frame_at2 (us := us) hl (show (tabM[10]?).join = some 8 from rfl)).trans e8
    have e12 : us 12 = .agg R := hV 12 (by simp)
    have v12 := (frame_at2 (us := us) hl (show (tabM[14]?).join = some 12 from rfl)).trans e12
    generalize frame tabM a0 us = fr at *
    exact call_ok (f := 42) (args := #[.agg M, .agg R]) (by go_simp) ((CT.out w').mono fun e w'' h => ⟨_, h.1, hG.below h.2, h.2, rfl⟩)
  · refine step_plain [4, 13] (by kernel_rfl) rfl fun us w' hG hV => ?_
    have e4 : us 4 = .agg K := hV 4 (by simp)
    have v4 := (frame_at2 (us := us) hl (show (tabM[6]?).join = some 4 from rfl)).trans e4
    have e13 : us 13 = .agg X := hV 13 (by simp)
    have v13 := (frame_at2 (us := us) hl (show (tabM[15]?).join = some 13 from rfl)).trans e13
    generalize frame tabM a0 us = fr at *
    exact call_ok (f := 55) (args := #[.agg K, .agg X]) (by go_simp) ((CE.out w').mono fun e w'' h => ⟨_, h.1, hG.below h.2, h.2, rfl⟩)
  · refine step_plain [0] (by kernel_rfl) rfl fun us w' hG hV => ?_
    have e0 : us 0 = .pointer (some ⟨g, 0, none⟩) := hV 0 (by simp)
    have v0 := (frame_at2 (us := us) hl (show (tabM[2]?).join = some 0 from rfl)).trans e0
    generalize frame tabM a0 us = fr at *
    exact val_ok (v := .pointer (some ⟨g, 0, none⟩)) (w' := w') (by go_simp) hG (Below.refl _ _) rfl
  · refine step_plain [15] (by kernel_rfl) rfl fun us w' hG hV => ?_
    have e15 : us 15 = .pointer (some ⟨g, 0, none⟩) := hV 15 (by simp)
    have v15 := (frame_at2 (us := us) hl (show (tabM[17]?).join = some 15 from rfl)).trans e15
    generalize frame tabM a0 us = fr at *
    exact val_ok (v := .pointer (some ⟨g, 16, none⟩)) (w' := w') (by go_simp) hG (Below.refl _ _) rfl
  · intro us w' o ho hG hV
    obtain rfl := Option.some.inj ho
    have e14 : us 14 = .agg Y := hV 14 (by decide)
    have v14 := (frame_at2 (us := us) hl (show (tabM[16]?).join = some 14 from rfl)).trans e14
    have e16 : us 16 = .pointer (some ⟨g, 16, none⟩) := hV 16 (by decide)
    have v16 := (frame_at2 (us := us) hl (show (tabM[18]?).join = some 16 from rfl)).trans e16
    have hg1 := hG.ch.row
    refine storep_J 32 18 16 rfl g 16 Y v16 v14 _ _ hg1 UY.out (by rw [YS.out, List.size_toArray, chC_len LK.out LM.out LR.out]; decide) OY.out (chC k (encL k (xorL m r)) r h).toArray (by rw [← HY.out]; exact put_mac LK.out LM.out (encL_len _ _) r h) ?_
    have HT : Hid (CH w g k (encL k (xorL m r)) r h (w'.setRow g (chC k (encL k (xorL m r)) r h).toArray)) := Lib.hid ⟨hG.ch.putMac (encL_len _ _), hG.but.setRow _⟩
    generalize w'.setRow g (chC k (encL k (xorL m r)) r h).toArray = w1 at *
    subst ha0
    simp only [Act.put, frame, tabM, fill]
    clear hV v14 e14 v16 e16 hG hg1 k0 hl CT CE UK UM UR UY C0
    have R1 := Lib.hid HT.out.ch.row
    have LE := Lib.hid (encL_len k (xorL m r))
    have HT2 := Lib.hid (HT.out.ch.putRest (zs_len 16))
    have B2 := Lib.hid (HT.out.but.setRow (chC k (encL k (xorL m r)) (zs 16) h).toArray)
    have fr := HT2.out.frozen 48
    have c48 := HT2.out.has
    have HT3 := Lib.hid (HT2.out.putHas 0)
    have B3 := Lib.hid (B2.out.setCell 48 (.int .i64 ((0 : Nat) : Int)))
    have NW := Lib.hid (put_rest (m := encL k (xorL m r)) (r := r) LK.out LE.out LR.out (zs_len 16) h)
    have SZ := Lib.hid (show 32 + Z.size ≤ (chC k (encL k (xorL m r)) r h).toArray.size by rw [ZSz.out, List.size_toArray, chC_len LK.out LE.out LR.out]; decide)
    have EE := Lib.hid (show ∃ E, encL k (xorL m r) = E from ⟨_, rfl⟩)
    obtain ⟨E, hE⟩ := EE.out
    rw [hE] at HT R1 LE HT2 B2 fr c48 HT3 B3 NW SZ
    have HE := Lib.hid hE
    clear hE EE HT
    go_wp2_with (first
      | (refine Go.Proofs.Ythbgjjfhgbkbdaa.aesC.wpList_zero rfl 32 rfl _ hzb.out ?_)
      | (refine wpList_store_piece rfl 32 (.tmp 23) (.tmp 21) rfl g 32 Z rfl rfl _ _ R1.out UZ.out SZ.out OZ.out (chC k E (zs 16) h).toArray (by rw [HZ.out]; exact NW.out) ?_
         generalize w1.setRow g (chC k E (zs 16) h).toArray = w2 at *))
    exact bodyPost_end (results_none rfl _ _ _) rfl ⟨rfl, by rw [HE.out]; exact HT3.out, B3.out⟩
end Go.Proofs.Ythbgjjfhgbkbdaa.aesC
