/-
  AES: the code's Round and Encrypt.
-/
import Derived.Test.YtjcdgdlononkhaaAesJ
namespace Go.Proofs.Ytjcdgdlononkhaa.aesC
open Go.ChangeShapes Go.WideShapes Go.ChangeAt Go.RowKit
open Go.Proofs.Ytjcdgdlononkhaa.memC Go.Proofs.Ytjcdgdlononkhaa.genC Go.Proofs.Ytjcdgdlononkhaa.aesM Go.Proofs.Ytjcdgdlononkhaa.freeC
set_option linter.unusedVariables false
/-- an array out of an array of arrays -/
theorem run_idx_agg {P : Program} (w : World) (t e : TypeId) (n s : Nat) (d : TypeDesc) (cs : Array Value) (k : Nat) (ht : P.underlying t = some (.array n e)) (he : P.underlying e = some d)
    (hd : (match d with | .struct _ | .array _ _ => true | _ => false) = true) (hi : (P.info? e).map (·.size) = some s) (hk : k < n) : (Instr.index t (.agg cs) (.int .i64 (k : Int))).run P w = .ok (.agg (cs.extract (k * s) (k * s + s))) w := by
  have hn : 0 ≤ (k : Int) ∧ (k : Int) < (n : Int) := by omega
  cases hq : P.info? e with
  | none => simp [hq] at hi
  | some i =>
    have hs : i.size = s := by simpa [hq] using hi
    have hagg : (isAgg e).run P w = .ok true w := by
      unfold isAgg
      rw [Sem.run_bind, run_underlying he w]
      cases d <;> simp_all
    have hp : (part e cs (k * s)).run P w = .ok (.agg (cs.extract (k * s) (k * s + s))) w := by
      simp [part, Sem.run_bind, hagg, sizeOf, typeInfo, hq, hs]
    simp [Instr.index, run_underlying ht, asIntOf, hn, sizeOf, typeInfo, hq, hs, hp, Sem.run_bind]
    omega
theorem FL_ext {k : List Nat} (hk : BY k) (hl : k.length = 16) {n : Nat} (h : n < 11) : (vec (FL k)).extract (n * 16) (n * 16 + 16) = vec (rk k n) := by
  rw [← FL_win hk hl h, Nat.mul_comm n 16]
  unfold vec
  apply Array.toList_inj.1
  simp [List.map_take, List.map_drop, List.extract_eq_take_drop]
/-- the round key n, or zeros -/
def rnd (k : List Nat) (n : Int) : List Nat := if 0 ≤ n ∧ n ≤ 10 then rk k n.toNat else zs 16
theorem rnd_len {k : List Nat} (hk : BY k) (hl : k.length = 16) (n : Int) : (rnd k n).length = 16 := by
  unfold rnd
  split
  · exact (rk_ok hk hl _).2
  · exact zs_len 16
theorem built_zero : Try.prog.built 22 [] = some (vec (zs 16)) := by kernel_rfl
theorem wpList_zero {P : Program} {ops : Array Oper} {rest : List Oper} {o : Oper} {a : Act} {w : World} {Q : Exit → Act → World → Prop} (hg : o.guard = none) (t : TypeId) (ho : o.op = .build t #[])
    (cells : Array Value) (hf : P.built t [] = some cells)
    (h : wpList P ops Q rest (a.put o.dst (.agg cells)) w) : wpList P ops Q (o :: rest) a w := by
  refine wpList_plain hg fun _ hK => ?_
  unfold Oper.wp execOp
  have hb : (Instr.build t #[]).run P w = .ok (.agg cells) w := run_build w t _ cells hf
  simp [ho, hb, Result.andThen_ok]
  exact hK _ _ h
set_option maxRecDepth 100000 in
set_option maxHeartbeats 1000000 in
theorem round_any (k : List Nat) (n : Int) (w : World) (hk : k.length = 16) (yk : BY k) (lo : -9223372036854775808 ≤ n) (hi : n ≤ 9223372036854775807) :
    Calls Try.prog 14 #[.agg (vec k), .int .i64 n] w (Ret w (.agg (vec (rnd k n)))) := by
  have hrl := rnd_len yk hk n
  obtain ⟨X, hX⟩ : ∃ X, X = vec k := ⟨_, rfl⟩
  obtain ⟨Z, hZ⟩ : ∃ Z, Z = vec (zs 16) := ⟨_, rfl⟩
  obtain ⟨R, hR⟩ : ∃ R, R = vec (rnd k n) := ⟨_, rfl⟩
  obtain ⟨F, hF⟩ : ∃ F, F = vec (FL k) := ⟨_, rfl⟩
  have hzv := zero16
  rw [← hZ] at hzv
  have hbz := Lib.hid (show Try.prog.built 22 [] = some Z by rw [hZ]; exact built_zero)
  have U1 := Lib.hid (show (Try.prog.info? 24).map (·.size) = some X.size by rw [key_info, hX, vec_size, hk])
  have U2 := Lib.hid (show (Try.prog.info? 22).map (·.size) = some R.size by rw [b16_info, hR, vec_size, hrl])
  have ZR := Lib.hid (show Z.size = R.size by rw [hZ, hR, vec_size, vec_size, hrl, zs_len])
  have OR := Lib.hid (show R.all (·.oneCell') = true by rw [hR]; exact vec_one _)
  have e1 : (w.alloc (.cells X 24)).heap.size = w.heap.size + 1 := alloc_size _ _
  obtain ⟨W, hW⟩ : ∃ W, W = (w.alloc (.cells X 24)).alloc (.cells Z 22) := ⟨_, rfl⟩
  have R0 := Lib.hid (show W.heap[w.heap.size]? = some (.cells X 24 (0, 0)) by rw [hW, Below.block (alloc_below _ _) _ (by rw [e1]; omega)]; exact heap_alloc_new w _)
  have R1 := Lib.hid (show W.heap[w.heap.size + 1]? = some (.cells Z 22 (0, 0)) by rw [hW, ← e1]; exact heap_alloc_new _ _)
  have SW := Lib.hid (show w.heap.size + 1 < W.heap.size by rw [hW, alloc_size, e1]; omega)
  have BW := Lib.hid (show Below w.heap.size w W by rw [hW]; exact ((Below.refl _ _).alloc (Nat.le_refl _) _).alloc (by simp) _)
  have RA := Lib.hid (rounds_any k W hk yk)
  rw [← hX, ← hF] at RA
  have HE := Lib.hid (fun (m : Nat) (hm : m < 11) => FL_ext yk hk hm)
  rw [← hF] at HE
  rw [← hX, ← hR]
  by_cases h : 0 ≤ n ∧ n ≤ 10
  · obtain ⟨m, rfl⟩ := Int.eq_ofNat_of_zero_le h.1
    have m0 : ¬ (m : Int) < 0 := by omega
    have m1 : ¬ (10 : Int) < (m : Int) := by omega
    have hmm : m < 11 := by omega
    have hre : F.extract (m * 16) (m * 16 + 16) = R := by
      rw [HE.out m hmm, hR]; unfold rnd; rw [if_pos h]; rfl
    have hix := Lib.hid (fun w => run_idx_agg (P := Try.prog) w 30 22 11 16 _ F m Try.underlying30 Try.underlying22 rfl b16_info hmm)
    rw [hre] at hix
    clear h hre HE hX hR hF hZ e1 hk yk hrl
    go_enter Try.func14, Try.ntmps14
    go_upto_region 1 with fail
    rw [← hW]
    clear hW hzv
    go_wp2_with (first
      | (refine wpList_load_row rfl 24 (.tmp 2) rfl w.heap.size rfl _ _ _ _ R0.out Try.underlying24 rfl U1.out ?_)
      | (go_at_call 20; (with_reducible refine RA.out.mono ?_); rintro e w1 ⟨rfl, B1⟩
         have hi2 := hix.out w1
         have R2 := Lib.hid ((B1.block _ SW.out).trans R1.out)
         have BF := Lib.hid (BW.out.trans (B1.mono BW.out.size))
         clear B1)
      | (refine wpList_store_row rfl 22 (.tmp 4) (.tmp 15) rfl (w.heap.size + 1) _ rfl rfl _ _ R2.out U2.out ZR.out OR.out ?_))
    refine bodyPost_ret (v := .agg R) (results_cell_row Try.results14 _ _ (w.heap.size + 1) _ _ _ _ (by rfl) (setRow_heap _ _ _ _ _ _ R2.out) Try.underlying22 rfl U2.out) rfl ⟨rfl, ?_⟩
    exact below_setRow BF.out (by omega) _
  · have hRZ : R = Z := by rw [hR, hZ]; unfold rnd; rw [if_neg h]
    subst hRZ
    rcases (show n < 0 ∨ 10 < n by omega) with hn | hn
    · clear h HE hX hR hF hZ e1 hk yk hrl RA
      go_enter Try.func14, Try.ntmps14
      go_upto_region 1 with fail
      rw [← hW]
      clear hW hzv
      go_wp2_with (first
        | (refine wpList_zero rfl 22 rfl R hbz.out ?_)
        | (refine wpList_store_row rfl 22 (.tmp 4) (.tmp 11) rfl (w.heap.size + 1) _ rfl rfl _ _ R1.out U2.out ZR.out OR.out ?_))
      refine bodyPost_ret (v := .agg R) (results_cell_row Try.results14 _ _ (w.heap.size + 1) _ _ _ _ (by rfl) (setRow_heap _ _ _ _ _ _ R1.out) Try.underlying22 rfl U2.out) rfl ⟨rfl, ?_⟩
      exact below_setRow BW.out (by omega) _
    · have hn0 : ¬ n < 0 := by omega
      clear h HE hX hR hF hZ e1 hk yk hrl RA
      go_enter Try.func14, Try.ntmps14
      go_upto_region 1 with fail
      rw [← hW]
      clear hW hzv
      go_wp2_with (first
        | (refine wpList_zero rfl 22 rfl R hbz.out ?_)
        | (refine wpList_store_row rfl 22 (.tmp 4) (.tmp 11) rfl (w.heap.size + 1) _ rfl rfl _ _ R1.out U2.out ZR.out OR.out ?_))
      refine bodyPost_ret (v := .agg R) (results_cell_row Try.results14 _ _ (w.heap.size + 1) _ _ _ _ (by rfl) (setRow_heap _ _ _ _ _ _ R1.out) Try.underlying22 rfl U2.out) rfl ⟨rfl, ?_⟩
      exact below_setRow BW.out (by omega) _
end Go.Proofs.Ytjcdgdlononkhaa.aesC
