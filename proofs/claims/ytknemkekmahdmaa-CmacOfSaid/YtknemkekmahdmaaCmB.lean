/-
  CMAC: a chain in memory; a block mixed in.
-/
import Derived.Test.YtknemkekmahdmaaCmA
import Derived.Test.YtknemkekmahdmaaCov
namespace Go.Proofs.Ytknemkekmahdmaa.aesC
open Go.ChangeShapes Go.WideShapes Go.ChangeAt Go.RowKit
open Go.Proofs.Ytknemkekmahdmaa.memC Go.Proofs.Ytknemkekmahdmaa.genC Go.Proofs.Ytknemkekmahdmaa.aesM Go.Proofs.Ytknemkekmahdmaa.butC Go.Proofs.Ytknemkekmahdmaa.freeC
set_option linter.unusedVariables false
def vl (xs : List Nat) : List Value := xs.map fun n : Nat => Value.int .u8 (n : Int)
theorem vl_len (xs : List Nat) : (vl xs).length = xs.length := by simp [vl]
theorem vec_vl (xs : List Nat) : vec xs = (vl xs).toArray := rfl
theorem vl_app (a b : List Nat) : vl (a ++ b) = vl a ++ vl b := by simp [vl]
theorem vl_one {xs : List Nat} {v : Value} (h : v ∈ vl xs) : v.oneCell' = true := by
  obtain ⟨z, _, rfl⟩ := List.mem_map.1 h; rfl
/-- a chain's cells: the key, the MAC, the rest, how many bytes of it there are -/
def chC (k m r : List Nat) (h : Nat) : List Value := vl k ++ (vl m ++ (vl r ++ [.int .i64 (h : Int)]))
theorem chC_len {k m r : List Nat} (lk : k.length = 16) (lm : m.length = 16) (lr : r.length = 16) (h : Nat) : (chC k m r h).length = 49 := by
  simp [chC, vl_len, lk, lm, lr]
structure Chain (w : World) (g : Nat) (k m r : List Nat) (h : Nat) : Prop where
  row : w.heap[g]? = some (.cells (chC k m r h).toArray 42 (0, 0))
  lk : k.length = 16
  lm : m.length = 16
  lr : r.length = 16
theorem at_mid {a b c : List Value} {n j : Nat} {v : Value} (hn : a.length = n) (h : b[j]? = some v) : (a ++ (b ++ c))[n + j]? = some v := by
  have hj := (List.getElem?_eq_some_iff.1 h).1
  rw [List.getElem?_append_right (by omega), hn, show n + j - n = j by omega, List.getElem?_append_left hj, h]
section
variable {w w' : World} {g : Nat} {k m r : List Nat} {h : Nat}
theorem Chain.lt (H : Chain w g k m r h) : g < w.heap.size := by
  rcases Nat.lt_or_ge g w.heap.size with h1 | h1
  · exact h1
  · have := H.row; rw [Array.getElem?_eq_none h1] at this; cases this
theorem Chain.cell (H : Chain w g k m r h) {j : Nat} {v : Value} (hv : (chC k m r h)[j]? = some v) : w.cell? ⟨g, j, none⟩ = some v := by
  rw [cell_of_row w g j _ _ (0, 0) H.row]; simpa using hv
theorem Chain.key (H : Chain w g k m r h) (j : Nat) (v : Value) (hv : (vec k)[j]? = some v) : w.cell? ⟨g, 0 + j, none⟩ = some v :=
  H.cell (at_mid (a := []) rfl (by simpa [vec_vl] using hv))
theorem Chain.mac (H : Chain w g k m r h) (j : Nat) (v : Value) (hv : (vec m)[j]? = some v) : w.cell? ⟨g, 16 + j, none⟩ = some v :=
  H.cell (at_mid (by rw [vl_len, H.lk]) (by simpa [vec_vl] using hv))
theorem chC_rest (k m r : List Nat) (h : Nat) : chC k m r h = (vl k ++ vl m) ++ (vl r ++ [.int .i64 (h : Int)]) := by unfold chC; rw [List.append_assoc]
theorem chC_has (k m r : List Nat) (h : Nat) : chC k m r h = (vl k ++ (vl m ++ vl r)) ++ ([.int .i64 (h : Int)] ++ []) := by unfold chC; simp
theorem Chain.rest (H : Chain w g k m r h) (j : Nat) (v : Value) (hv : (vec r)[j]? = some v) : w.cell? ⟨g, 32 + j, none⟩ = some v :=
  H.cell (by rw [chC_rest]; exact at_mid (by rw [List.length_append, vl_len, vl_len, H.lk, H.lm]) (by simpa [vec_vl] using hv))
theorem Chain.has (H : Chain w g k m r h) : w.cell? ⟨g, 48, none⟩ = some (.int .i64 (h : Int)) :=
  H.cell (by rw [chC_has]; exact at_mid (j := 0) (by simp [vl_len, H.lk, H.lm, H.lr]) rfl)
theorem Chain.frozen (H : Chain w g k m r h) (j : Nat) : w.frozen? ⟨g, j, none⟩ = false := frozen_of_row w g j _ _ H.row
theorem Chain.heap (H : Chain w g k m r h) (e : w'.heap = w.heap) : Chain w' g k m r h := ⟨by rw [e]; exact H.row, H.lk, H.lm, H.lr⟩
theorem Chain.below {B : Nat} (H : Chain w g k m r h) (hb : Below B w w') (hg : g < B) : Chain w' g k m r h := ⟨by rw [hb.block g hg]; exact H.row, H.lk, H.lm, H.lr⟩
theorem put_mac (lk : k.length = 16) (lm : m.length = 16) {m' : List Nat} (lm' : m'.length = 16) (r : List Nat) (h : Nat) :
    ((chC k m r h).toArray.toList.take 16 ++ (vec m').toList ++ (chC k m r h).toArray.toList.drop (16 + (vec m').size)).toArray = (chC k m' r h).toArray := by
  congr 1
  simp only [vec_vl, List.size_toArray, vl_len, lm']
  unfold chC
  have e1 : (vl k ++ (vl m ++ (vl r ++ [Value.int .i64 (h : Int)]))).take 16 = vl k := List.take_left' (by rw [vl_len, lk])
  have e2 : (vl k ++ (vl m ++ (vl r ++ [Value.int .i64 (h : Int)]))).drop (16 + 16) = vl r ++ [Value.int .i64 (h : Int)] := by
    rw [← List.append_assoc]; exact List.drop_left' (by rw [List.length_append, vl_len, vl_len, lk, lm])
  rw [e1, e2, List.append_assoc]
theorem put_rest (lk : k.length = 16) (lm : m.length = 16) (lr : r.length = 16) {r' : List Nat} (lr' : r'.length = 16) (h : Nat) :
    ((chC k m r h).toArray.toList.take 32 ++ (vec r').toList ++ (chC k m r h).toArray.toList.drop (32 + (vec r').size)).toArray = (chC k m r' h).toArray := by
  congr 1
  simp only [vec_vl, List.size_toArray, vl_len, lr']
  have e1 : (chC k m r h).take 32 = vl k ++ vl m := by rw [chC_rest]; exact List.take_left' (by rw [List.length_append, vl_len, vl_len, lk, lm])
  have e2 : (chC k m r h).drop (32 + 16) = [.int .i64 (h : Int)] := by
    rw [chC_rest, ← List.append_assoc]; exact List.drop_left' (by simp [vl_len, lk, lm, lr])
  rw [e1, e2, chC_rest, List.append_assoc]
theorem Chain.putMac (H : Chain w g k m r h) {m' : List Nat} (l : m'.length = 16) : Chain (w.setRow g (chC k m' r h).toArray) g k m' r h := ⟨setRow_heap _ _ _ _ _ _ H.row, H.lk, l, H.lr⟩
theorem Chain.putRest (H : Chain w g k m r h) {r' : List Nat} (l : r'.length = 16) : Chain (w.setRow g (chC k m r' h).toArray) g k m r' h := ⟨setRow_heap _ _ _ _ _ _ H.row, H.lk, H.lm, l⟩
theorem Chain.putHas (H : Chain w g k m r h) (h' : Nat) : Chain (w.setCell ⟨g, 48, none⟩ (.int .i64 (h' : Int))) g k m r h' := by
  refine ⟨?_, H.lk, H.lm, H.lr⟩
  rw [heap_setCell_same w g 48 _ _ _ H.row]
  congr 2
  have e : (chC k m r h).set 48 (.int .i64 (h' : Int)) = chC k m r h' := by
    rw [chC_has, chC_has, List.set_append_right _ _ (by simp [vl_len, H.lk, H.lm, H.lr])]
    simp [vl_len, H.lk, H.lm, H.lr]
  rw [← e]; simp
end
theorem chain_info : (Try.prog.info? 42).map (·.size) = some 49 := by kernel_rfl
theorem zero16_built : Try.prog.built 22 [] = some (vec (zs 16)) := by kernel_rfl
/-- a store of a piece, that ends a region -/
theorem storep_J {P : Program} {Q : Exit → Act → World → Prop} {o : Oper} {w : World} {R : Value → World → Prop} {fr : Act} (ty : TypeId) (s x : Tmp) (ho : o.op = .store ty (.tmp s) (.tmp x)) (g q : Nat) (cells : Array Value) (hs : fr.tmps[s]?.getD undef = .pointer (some ⟨g, q, none⟩)) (hx : fr.tmps[x]?.getD undef = .agg cells)
    (t : TypeId) (old : Array Value) (hg : w.heap[g]? = some (.cells old t (0, 0))) (hi : (P.info? ty).map (·.size) = some cells.size) (hold : q + cells.size ≤ old.size) (h1 : cells.all (·.oneCell') = true)
    (new : Array Value) (hn : (old.toList.take q ++ cells.toList ++ old.toList.drop (q + cells.size)).toArray = new) (hR : R undef (w.setRow g new)) :
    o.wp P fr w (fun a' w' => ∃ v, a' = fr.put o.dst v ∧ R v w') Q := by
  have hl := Go.Proofs.Ytknemkekmahdmaa.partC.run_store_part (P := P) w g q t ty old cells hg hi hold h1
  rw [hn] at hl
  have hs2 : fr.eval (.tmp s) = .pointer (some ⟨g, q, none⟩) := by simpa only [Act.eval, Array.getD_eq_getD_getElem?] using hs
  have hx2 : fr.eval (.tmp x) = .agg cells := by simpa only [Act.eval, Array.getD_eq_getD_getElem?] using hx
  refine free_skip (w' := w.setRow g new) ?_ ⟨undef, rfl, hR⟩
  unfold execOp
  simp only [ho, hs2, hx2, Instr.storeAt, Instr.sureAddr, Sem.run_bind, Sem.run_pure, Result.andThen_ok, hl]
/-- a chain, and that no other block turned -/
structure CH (w : World) (g : Nat) (k m r : List Nat) (h : Nat) (wr : World) : Prop where
  ch : Chain wr g k m r h
  but : But g w wr
section
variable {w wr w' : World} {g : Nat} {k m r : List Nat} {h : Nat}
theorem CH.below (B : CH w g k m r h wr) (hb : Below wr.heap.size wr w') : CH w g k m r h w' := ⟨B.ch.below hb B.ch.lt, B.but.trans (But.below hb)⟩
theorem CH.heap (B : CH w g k m r h wr) (e : w'.heap = wr.heap) (e1 : w'.os = wr.os) (e2 : w'.tape = wr.tape) (e3 : w'.output = wr.output) : CH w g k m r h w' := ⟨B.ch.heap e, B.but.heap e e1 e2 e3⟩
end
def MixRet (w : World) (g : Nat) (k m r : List Nat) (e : Ending) (w' : World) : Prop := e = .returned (.tuple #[]) ∧ CH w g k (encL k (xorL m r)) (zs 16) 0 w'
def MV (g : Nat) (K M R X Y : Array Value) : Nat → Value → World → Prop
  | 0, v, _ => v = .pointer (some ⟨g, 0, none⟩)
  | 1, v, _ => v = .pointer (some ⟨g, 0, none⟩)
  | 2, v, _ => v = .pointer (some ⟨g, 0, none⟩)
  | 3, v, _ => v = .pointer (some ⟨g, 0, none⟩)
  | 4, v, _ => v = .agg K
  | 5, v, _ => v = .pointer (some ⟨g, 0, none⟩)
  | 6, v, _ => v = .pointer (some ⟨g, 0, none⟩)
  | 7, v, _ => v = .pointer (some ⟨g, 16, none⟩)
  | 8, v, _ => v = .agg M
  | 9, v, _ => v = .pointer (some ⟨g, 0, none⟩)
  | 10, v, _ => v = .pointer (some ⟨g, 0, none⟩)
  | 11, v, _ => v = .pointer (some ⟨g, 32, none⟩)
  | 12, v, _ => v = .agg R
  | 13, v, _ => v = .agg X
  | 14, v, _ => v = .agg Y
  | 15, v, _ => v = .pointer (some ⟨g, 0, none⟩)
  | 16, v, _ => v = .pointer (some ⟨g, 16, none⟩)
  | _, _, _ => True
theorem MV.keep (g : Nat) (K M R X Y : Array Value) (i : Nat) (v : Value) (w w' : World) (hb : Below w.heap.size w w') (h : MV g K M R X Y i v w) : MV g K M R X Y i v w' := by
  unfold MV at h ⊢
  split at h <;> exact h
def tabM : List (Option Nat) := [none, none, some 0, some 1, some 2, some 3, some 4, some 5, some 6, some 7, some 8, some 9, some 10, some 11, some 12, some 13, some 14, some 15, some 16, none, none, none, none, none, none, none]
set_option maxRecDepth 100000 in
set_option maxHeartbeats 1000000 in
theorem mix_any (g : Nat) (k m r : List Nat) (h : Nat) (w : World) (H : Chain w g k m r h) (yk : BY k) (ym : BY m) (yr : BY r) :
    Calls Try.prog 21 #[.pointer (some ⟨g, 0, none⟩)] w (MixRet w g k m r) := by
  have lg := H.lt
  have C0 : Hid (CH w g k m r h w) := Lib.hid ⟨H, But.refl _⟩
  obtain ⟨K, hK⟩ : ∃ K, K = vec k := ⟨_, rfl⟩
  obtain ⟨M, hM⟩ : ∃ M, M = vec m := ⟨_, rfl⟩
  obtain ⟨R, hR⟩ : ∃ R, R = vec r := ⟨_, rfl⟩
  obtain ⟨X, hX⟩ : ∃ X, X = vec (xorL m r) := ⟨_, rfl⟩
  obtain ⟨Y, hY⟩ : ∃ Y, Y = vec (encL k (xorL m r)) := ⟨_, rfl⟩
  have HK := Lib.hid hK.symm
  have HM := Lib.hid hM.symm
  have HR := Lib.hid hR.symm
  have HY := Lib.hid hY.symm
  have LK := Lib.hid H.lk
  have LM := Lib.hid H.lm
  have LR := Lib.hid H.lr
  have UK := Lib.hid (show (Try.prog.info? 39).map (·.size) = some K.size by rw [key_info, hK, vec_size, H.lk])
  have UM := Lib.hid (show (Try.prog.info? 22).map (·.size) = some M.size by rw [hM]; exact vec_info H.lm)
  have UR := Lib.hid (show (Try.prog.info? 22).map (·.size) = some R.size by rw [hR]; exact vec_info H.lr)
  have UY := Lib.hid (show (Try.prog.info? 22).map (·.size) = some Y.size by rw [hY]; exact vec_info (encL_len _ _))
  have CT := Lib.hid (fun w => cturn_any m r w H.lm H.lr ym yr)
  have CE := Lib.hid (fun w => encrypt_any k (xorL m r) w H.lk yk (xorL_len _ _) (xorL_by ym yr))
  rw [← hM, ← hR, ← hX] at CT
  rw [← hK, ← hX, ← hY] at CE
  have YS := Lib.hid (show Y.size = 16 by rw [hY, vec_size, encL_len])
  have OY := Lib.hid (show Y.all (·.oneCell') = true by rw [hY]; exact vec_one _)
  have hzb := Lib.hid zero16_built
  obtain ⟨Z, hZ⟩ : ∃ Z, Z = vec (zs 16) := ⟨_, rfl⟩
  rw [← hZ] at hzb
  have UZ := Lib.hid (show (Try.prog.info? 22).map (·.size) = some Z.size by rw [hZ]; exact vec_info (zs_len 16))
  have OZ := Lib.hid (show Z.all (·.oneCell') = true by rw [hZ]; exact vec_one _)
  have ZSz := Lib.hid (show Z.size = 16 by rw [hZ, vec_size, zs_len])
  have HZ := Lib.hid hZ
  clear hK hM hR hX hY hZ H yk ym yr
  go_enter Try.func21, Try.ntmps21
  go_upto_region 0 with fail
  refine with_act fun a0 ha0 => ?_
  have hl : tabM.length = a0.tmps.size := by rw [ha0]; rfl
  have k0 : a0.tmps[0]?.getD undef = .pointer (some ⟨g, 0, none⟩) := by rw [ha0]; rfl
  refine wp_region_cov 17 (by kernel_rfl) tabM (by kernel_rfl) (by kernel_rfl) hl (by kernel_rfl) (by kernel_rfl) (by kernel_rfl) (fun i => a0.tmps[i + 2]?.getD undef) (by rw [ha0]; rfl) (CH w g k m r h) (MV g K M R X Y) ?_ (MV.keep _ _ _ _ _ _) ⟨?_, ?_, ?_, ?_, ?_, ?_, ?_, ?_, ?_, ?_, ?_, ?_, ?_, ?_, ?_, ?_, ?_, trivial⟩ ?_
  · exact C0.out.heap rfl rfl rfl rfl
  · refine step_plain [] (by kernel_rfl) rfl fun us w' hG hV => ?_
    have o0 := (frame_old2 (us := us) (a := a0) (show (tabM[0]?).join = none from rfl)).trans k0
    generalize frame tabM a0 us = fr at *
    exact val_ok (v := .pointer (some ⟨g, 0, none⟩)) (w' := w') (by go_simp) hG (Below.refl _ _) rfl
  · refine step_plain [] (by kernel_rfl) rfl fun us w' hG hV => ?_
    have o0 := (frame_old2 (us := us) (a := a0) (show (tabM[0]?).join = none from rfl)).trans k0
    generalize frame tabM a0 us = fr at *
    exact val_ok (v := .pointer (some ⟨g, 0, none⟩)) (w' := w') (by go_simp) hG (Below.refl _ _) rfl
  · refine step_plain [1] (by kernel_rfl) rfl fun us w' hG hV => ?_
    have e1 : us 1 = .pointer (some ⟨g, 0, none⟩) := hV 1 (by simp)
    have v1 := (frame_at2 (us := us) hl (show (tabM[3]?).join = some 1 from rfl)).trans e1
    generalize frame tabM a0 us = fr at *
    exact val_ok (v := .pointer (some ⟨g, 0, none⟩)) (w' := w') (by go_simp) hG (Below.refl _ _) rfl
  · refine step_plain [2] (by kernel_rfl) rfl fun us w' hG hV => ?_
    have e2 : us 2 = .pointer (some ⟨g, 0, none⟩) := hV 2 (by simp)
    have v2 := (frame_at2 (us := us) hl (show (tabM[4]?).join = some 2 from rfl)).trans e2
    generalize frame tabM a0 us = fr at *
    exact val_ok (v := .pointer (some ⟨g, 0, none⟩)) (w' := w') (by go_simp) hG (Below.refl _ _) rfl
  · refine step_plain [3] (by kernel_rfl) rfl fun us w' hG hV => ?_
    have e3 : us 3 = .pointer (some ⟨g, 0, none⟩) := hV 3 (by simp)
    have v3 := (frame_at2 (us := us) hl (show (tabM[5]?).join = some 3 from rfl)).trans e3
    have hc : ∀ j v, K[j]? = some v → w'.cell? ⟨g, 0 + j, none⟩ = some v := fun j v hv => hG.ch.key j v (by rw [HK.out]; exact hv)
    generalize frame tabM a0 us = fr at *
    exact loadp_ok 39 5 rfl g 0 v3 K _ hc Try.underlying39 rfl UK.out hG rfl
  · refine step_plain [] (by kernel_rfl) rfl fun us w' hG hV => ?_
    have o0 := (frame_old2 (us := us) (a := a0) (show (tabM[0]?).join = none from rfl)).trans k0
    generalize frame tabM a0 us = fr at *
    exact val_ok (v := .pointer (some ⟨g, 0, none⟩)) (w' := w') (by go_simp) hG (Below.refl _ _) rfl
  · refine step_plain [5] (by kernel_rfl) rfl fun us w' hG hV => ?_
    have e5 : us 5 = .pointer (some ⟨g, 0, none⟩) := hV 5 (by simp)
    have v5 := (frame_at2 (us := us) hl (show (tabM[7]?).join = some 5 from rfl)).trans e5
    generalize frame tabM a0 us = fr at *
    exact val_ok (v := .pointer (some ⟨g, 0, none⟩)) (w' := w') (by go_simp) hG (Below.refl _ _) rfl
  · refine step_plain [6] (by kernel_rfl) rfl fun us w' hG hV => ?_
    have e6 : us 6 = .pointer (some ⟨g, 0, none⟩) := hV 6 (by simp)
    have v6 := (frame_at2 (us := us) hl (show (tabM[8]?).join = some 6 from rfl)).trans e6
    generalize frame tabM a0 us = fr at *
    exact val_ok (v := .pointer (some ⟨g, 16, none⟩)) (w' := w') (by go_simp) hG (Below.refl _ _) rfl
  · refine step_plain [7] (by kernel_rfl) rfl fun us w' hG hV => ?_
    have e7 : us 7 = .pointer (some ⟨g, 16, none⟩) := hV 7 (by simp)
    have v7 := (frame_at2 (us := us) hl (show (tabM[9]?).join = some 7 from rfl)).trans e7
    have hc : ∀ j v, M[j]? = some v → w'.cell? ⟨g, 16 + j, none⟩ = some v := fun j v hv => hG.ch.mac j v (by rw [HM.out]; exact hv)
    generalize frame tabM a0 us = fr at *
    exact loadp_ok 22 9 rfl g 16 v7 M _ hc Try.underlying22 rfl UM.out hG rfl
  · refine step_plain [] (by kernel_rfl) rfl fun us w' hG hV => ?_
    have o0 := (frame_old2 (us := us) (a := a0) (show (tabM[0]?).join = none from rfl)).trans k0
    generalize frame tabM a0 us = fr at *
    exact val_ok (v := .pointer (some ⟨g, 0, none⟩)) (w' := w') (by go_simp) hG (Below.refl _ _) rfl
  · refine step_plain [9] (by kernel_rfl) rfl fun us w' hG hV => ?_
    have e9 : us 9 = .pointer (some ⟨g, 0, none⟩) := hV 9 (by simp)
    have v9 := (frame_at2 (us := us) hl (show (tabM[11]?).join = some 9 from rfl)).trans e9
    generalize frame tabM a0 us = fr at *
    exact val_ok (v := .pointer (some ⟨g, 0, none⟩)) (w' := w') (by go_simp) hG (Below.refl _ _) rfl
  · refine step_plain [10] (by kernel_rfl) rfl fun us w' hG hV => ?_
    have e10 : us 10 = .pointer (some ⟨g, 0, none⟩) := hV 10 (by simp)
    have v10 := (frame_at2 (us := us) hl (show (tabM[12]?).join = some 10 from rfl)).trans e10
    generalize frame tabM a0 us = fr at *
    exact val_ok (v := .pointer (some ⟨g, 32, none⟩)) (w' := w') (by go_simp) hG (Below.refl _ _) rfl
  · refine step_plain [11] (by kernel_rfl) rfl fun us w' hG hV => ?_
    have e11 : us 11 = .pointer (some ⟨g, 32, none⟩) := hV 11 (by simp)
    have v11 := (frame_at2 (us := us) hl (show (tabM[13]?).join = some 11 from rfl)).trans e11
    have hc : ∀ j v, R[j]? = some v → w'.cell? ⟨g, 32 + j, none⟩ = some v := fun j v hv => hG.ch.rest j v (by rw [HR.out]; exact hv)
    generalize frame tabM a0 us = fr at *
    exact loadp_ok 22 13 rfl g 32 v11 R _ hc Try.underlying22 rfl UR.out hG rfl
  · refine step_plain [8, 12] (by kernel_rfl) rfl fun us w' hG hV => ?_
    have e8 : us 8 = .agg M := hV 8 (by simp)
    have v8 := (frame_at2 (us := us) hl (show (tabM[10]?).join = some 8 from rfl)).trans e8
    have e12 : us 12 = .agg R := hV 12 (by simp)
    have v12 := (frame_at2 (us := us) hl (show (tabM[14]?).join = some 12 from rfl)).trans e12
    generalize frame tabM a0 us = fr at *
    exact call_ok (f := 20) (args := #[.agg M, .agg R]) (by go_simp) ((CT.out w').mono fun e w'' h => ⟨_, h.1, hG.below h.2, h.2, rfl⟩)
  · refine step_plain [4, 13] (by kernel_rfl) rfl fun us w' hG hV => ?_
    have e4 : us 4 = .agg K := hV 4 (by simp)
    have v4 := (frame_at2 (us := us) hl (show (tabM[6]?).join = some 4 from rfl)).trans e4
    have e13 : us 13 = .agg X := hV 13 (by simp)
    have v13 := (frame_at2 (us := us) hl (show (tabM[15]?).join = some 13 from rfl)).trans e13
    generalize frame tabM a0 us = fr at *
    exact call_ok (f := 23) (args := #[.agg K, .agg X]) (by go_simp) ((CE.out w').mono fun e w'' h => ⟨_, h.1, hG.below h.2, h.2, rfl⟩)
  · refine step_plain [0] (by kernel_rfl) rfl fun us w' hG hV => ?_
    have e0 : us 0 = .pointer (some ⟨g, 0, none⟩) := hV 0 (by simp)
    have v0 := (frame_at2 (us := us) hl (show (tabM[2]?).join = some 0 from rfl)).trans e0
    generalize frame tabM a0 us = fr at *
    exact val_ok (v := .pointer (some ⟨g, 0, none⟩)) (w' := w') (by go_simp) hG (Below.refl _ _) rfl
  · refine step_plain [15] (by kernel_rfl) rfl fun us w' hG hV => ?_
    have e15 : us 15 = .pointer (some ⟨g, 0, none⟩) := hV 15 (by simp)
    have v15 := (frame_at2 (us := us) hl (show (tabM[17]?).join = some 15 from rfl)).trans e15
    generalize frame tabM a0 us = fr at *
    exact val_ok (v := .pointer (some ⟨g, 16, none⟩)) (w' := w') (by go_simp) hG (Below.refl _ _) rfl
  · intro us w' o ho hG hV
    obtain rfl := Option.some.inj ho
    have e14 : us 14 = .agg Y := hV 14 (by decide)
    have v14 := (frame_at2 (us := us) hl (show (tabM[16]?).join = some 14 from rfl)).trans e14
    have e16 : us 16 = .pointer (some ⟨g, 16, none⟩) := hV 16 (by decide)
    have v16 := (frame_at2 (us := us) hl (show (tabM[18]?).join = some 16 from rfl)).trans e16
    have hg1 := hG.ch.row
    refine storep_J 22 18 16 rfl g 16 Y v16 v14 _ _ hg1 UY.out (by rw [YS.out, List.size_toArray, chC_len LK.out LM.out LR.out]; decide) OY.out (chC k (encL k (xorL m r)) r h).toArray (by rw [← HY.out]; exact put_mac LK.out LM.out (encL_len _ _) r h) ?_
    have HT : Hid (CH w g k (encL k (xorL m r)) r h (w'.setRow g (chC k (encL k (xorL m r)) r h).toArray)) := Lib.hid ⟨hG.ch.putMac (encL_len _ _), hG.but.setRow _⟩
    generalize w'.setRow g (chC k (encL k (xorL m r)) r h).toArray = w1 at *
    subst ha0
    simp only [Act.put, frame, tabM, fill]
    clear hV v14 e14 v16 e16 hG hg1 k0 hl CT CE UK UM UR UY C0
    have R1 := Lib.hid HT.out.ch.row
    have LE := Lib.hid (encL_len k (xorL m r))
    have HT2 := Lib.hid (HT.out.ch.putRest (zs_len 16))
    have B2 := Lib.hid (HT.out.but.setRow (chC k (encL k (xorL m r)) (zs 16) h).toArray)
    have fr := HT2.out.frozen 48
    have c48 := HT2.out.has
    have HT3 := Lib.hid (HT2.out.putHas 0)
    have B3 := Lib.hid (B2.out.setCell 48 (.int .i64 ((0 : Nat) : Int)))
    have NW := Lib.hid (put_rest (m := encL k (xorL m r)) (r := r) LK.out LE.out LR.out (zs_len 16) h)
    have SZ := Lib.hid (show 32 + Z.size ≤ (chC k (encL k (xorL m r)) r h).toArray.size by rw [ZSz.out, List.size_toArray, chC_len LK.out LE.out LR.out]; decide)
    have EE := Lib.hid (show ∃ E, encL k (xorL m r) = E from ⟨_, rfl⟩)
    obtain ⟨E, hE⟩ := EE.out
    rw [hE] at HT R1 LE HT2 B2 fr c48 HT3 B3 NW SZ
    have HE := Lib.hid hE
    clear hE EE HT
    go_wp2_with (first
      | (refine Go.Proofs.Ytknemkekmahdmaa.aesC.wpList_zero rfl 22 rfl _ hzb.out ?_)
      | (refine wpList_store_piece rfl 22 (.tmp 23) (.tmp 21) rfl g 32 Z rfl rfl _ _ R1.out UZ.out SZ.out OZ.out (chC k E (zs 16) h).toArray (by rw [HZ.out]; exact NW.out) ?_
         generalize w1.setRow g (chC k E (zs 16) h).toArray = w2 at *))
    exact bodyPost_end (results_none rfl _ _ _) rfl ⟨rfl, by rw [HE.out]; exact HT3.out, B3.out⟩
end Go.Proofs.Ytknemkekmahdmaa.aesC
