/-
  4 texts of a proof, joined.
-/
import Derived.Test.YthbgjjfhgbkbdaaMg23
import Derived.Deep.OwnRows

/-
  Traffic keys: '==' of short MACs; what alive does.
-/
namespace Go.Proofs.Ythbgjjfhgbkbdaa.kdC
open Go.ChangeShapes Go.WideShapes Go.ChangeAt Go.RowKit
open Go.Proofs.Ythbgjjfhgbkbdaa.memC Go.Proofs.Ythbgjjfhgbkbdaa.genC Go.Proofs.Ythbgjjfhgbkbdaa.aesM Go.Proofs.Ythbgjjfhgbkbdaa.aesC Go.Proofs.Ythbgjjfhgbkbdaa.butC Go.Proofs.Ythbgjjfhgbkbdaa.freeC Go.Proofs.Ythbgjjfhgbkbdaa.partsC
set_option linter.unusedVariables false
theorem vI_at {xs : List Int} {j : Nat} (hj : j < xs.length) : (vI xs)[j]? = some (.int .u8 (xs.getD j 0)) := by unfold vI; simp [List.getD_eq_getElem?_getD, hj]
set_option maxRecDepth 100000 in
theorem eq12 {xs ys : List Int} (hx : xs.length = 12) (hy : ys.length = 12) (w : World) : (Op.equalIn 10000 44 (.agg (vI xs)) (.agg (vI ys))).run Try.prog w = .ok (decide (xs = ys)) w := by
  obtain ⟨i0, hi0, hz0, hz1, hz2⟩ := info_parts byte_inf
  rw [show (10000 : Nat) = 9998 + 1 + 1 from rfl, run_equalIn_array w _ (vI xs) (vI ys) Try.underlying44 hi0, show Try.prog.cellsOf 5 = 1 by kernel_rfl,
    run_each w _ _ .u8 (vI xs) (vI ys) (fun j => xs.getD j 0) (fun j => ys.getD j 0) rfl _ fun j hj => ⟨vI_at (by rw [hx]; exact List.mem_range.1 hj), vI_at (by rw [hy]; exact List.mem_range.1 hj)⟩]
  congr 1
  by_cases h : xs = ys
  · subst h
    simp
  · rw [decide_eq_false h]
    refine Bool.eq_false_iff.2 fun h2 => h ?_
    apply List.ext_getElem?
    intro j
    by_cases hj : j < 12
    · have := List.all_eq_true.1 h2 j (List.mem_range.2 hj)
      have h3 : xs.getD j 0 = ys.getD j 0 := beq_iff_eq.1 this
      rw [List.getD_eq_getElem?_getD, List.getD_eq_getElem?_getD, List.getElem?_eq_getElem (by omega), List.getElem?_eq_getElem (by omega)] at h3
      rw [List.getElem?_eq_getElem (by omega), List.getElem?_eq_getElem (by omega)]
      exact congrArg some h3
    · rw [List.getElem?_eq_none (by omega), List.getElem?_eq_none (by omega)]
theorem guard12 : Try.prog.eqGuardType Try.prog.depth 44 = false := by kernel_rfl
theorem wpList_zeroG {P : Program} {ops : Array Oper} {rest : List Oper} {o : Oper} {a : Act} {w : World} {Q : Exit → Act → World → Prop} (hw : Region.wanted o (yielded ops a.tmps) = true) (t : TypeId) (ho : o.op = .build t #[])
    (cells : Array Value) (hf : P.built t [] = some cells)
    (h : wpList P ops Q rest (a.put o.dst (.agg cells)) w) : wpList P ops Q (o :: rest) a w := by
  refine wpList_step fun K hK => ?_
  rw [if_pos hw]
  unfold Oper.wp execOp
  have hb : (Instr.build t #[]).run P w = .ok (.agg cells) w := run_build w t _ cells hf
  simp [ho, hb, Result.andThen_ok]
  exact hK _ _ h
def AliveRet (w : World) (e : Ending) (w' : World) : Prop := e = .returned (.bool true) ∧ Below w.heap.size w w'
def nil16 : List Int := List.replicate 16 0
theorem nil16_len : nil16.length = 16 := rfl
theorem nil16_byte : ∀ x ∈ nil16, Byte x := by unfold Byte; decide
theorem made16 : madeCells #[Value.int .u8 0] 16 = vI nil16 := by kernel_rfl
theorem alive_key : keyL 2 nil16 [] = ints keyT := by
  have h1 : fitL nil16 = keyZ := by decide
  have h2 : nats (inpL [] 128) = inZ := by decide
  have h3 : keyL 2 nil16 [] = aesK nil16 [] := rfl
  rw [h3]
  unfold aesK
  rw [h1, h2, keyT_is]
theorem alive_keyE : keyE 2 nil16 = 0 := rfl
def macS : List Int := ints (macT.take 12)
theorem alive_mac : macX 2 (ints keyT) [97] = macS := by
  have h1 : nats (ints keyT) = keyT := ints_nats _
  have h2 : nats [97] = [97] := rfl
  have h3 : macX 2 (ints keyT) [97] = aesS (ints keyT) [97] := rfl
  rw [h3]
  unfold aesS shoL
  rw [h1, h2, macT_is]; rfl
theorem alive_macE : macE 2 (ints keyT) = 0 := rfl
theorem macS_not : macS ≠ zI := by decide
theorem keyT_len : (ints keyT).length = 16 := rfl
theorem macS_len : macS.length = 12 := rfl
theorem zI_len : zI.length = 12 := rfl
theorem lit1_key (w : World) (x : Int) (hx : Byte x) (T : TypeId) (fr : Nat × Nat) : Key (w.alloc (.cells #[.int .u8 x] T fr)) (some ⟨w.heap.size, 0, none⟩) 1 1 [x] := by
  refine ⟨⟨rfl, fun _ => ⟨_, 0, rfl, by rw [alloc_size]; exact Nat.lt_succ_self _, fun i hi => ?_⟩⟩, fun y hy => by rw [List.mem_singleton.1 hy]; exact hx, Nat.le_refl _, by decide⟩
  obtain rfl : i = 0 := by omega
  rw [cell_of_row _ w.heap.size (0 + 0) _ _ fr (heap_alloc_new w _)]
  rfl
set_option maxRecDepth 100000 in
set_option maxHeartbeats 1000000 in
theorem alive_any (w : World) : Calls Try.prog 10 #[] w (AliveRet w) := by
  obtain ⟨M, hM⟩ : ∃ M, M = vI nil16 := ⟨_, rfl⟩
  have hmk : ∀ w, (Instr.makeSlice 22 (.int .i64 16) (.int .i64 16)).run Try.prog w = .ok (.slice (some ⟨w.heap.size, 0, none⟩) 16 16) (w.alloc (.cells M 5)) := fun w => by
    rw [hM, ← made16]
    exact run_make_row' (P := Try.prog) 22 5 (.int .u8 0) 1 Try.underlying22 byte_inf rfl .i64 .i64 16 (by decide) (by decide) w
  have B0 := alloc_below w (.cells M 5)
  have K0 : Key (w.alloc (.cells M 5)) (some ⟨w.heap.size, 0, none⟩) 16 16 nil16 := cells_nums (by rw [hM]; exact heap_alloc_new _ _) nil16_len nil16_byte (by decide)
  have KT := Lib.hid ((key_any 2 (some ⟨w.heap.size, 0, none⟩) 16 16 nil16 none 0 0 [] (w.alloc (.cells M 5)) K0 (key_nil _) (by decide)).mono fun e w' ⟨A, n, c, h1, h2, h3⟩ => (show ∃ A c, e = Ending.returned (.tuple #[.slice A 16 c, .int .i64 0]) ∧ Key w' A 16 c (ints keyT) ∧ Below w.heap.size w w' by
    rw [alive_key] at h2
    have : n = 16 := by rw [← h2.nums.len]; rfl
    subst this
    exact ⟨A, c, h1, h2, B0.trans (h3.mono B0.size)⟩))
  have kc : ∀ w : World, (convert 22 22 (.slice (some ⟨w.heap.size, 0, none⟩) 1 1)).run Try.prog (w.alloc (.cells #[.int .u8 97] 5)) = .ok (.slice (some ⟨w.heap.size, 0, none⟩) 1 1) (w.alloc (.cells #[.int .u8 97] 5 (1, 2))) := fun (w : World) => Lib.run_convert_bytes_const (P := Try.prog) w 22 5 #[.int .u8 97] 1 1 Try.underlying22 Try.underlying5
  obtain ⟨Z, hZ⟩ : ∃ Z, Z = vec (zs 12) := ⟨_, rfl⟩
  have hzv := zero12
  rw [← hZ] at hzv
  obtain ⟨V, hV⟩ : ∃ V, V = vI macS := ⟨_, rfl⟩
  have UV := Lib.hid (show (Try.prog.info? 44).map (·.size) = some V.size by rw [b12_info, hV, vI_size]; rfl)
  have ZV := Lib.hid (show Z.size = V.size by rw [hZ, hV, vec_size, vI_size, zs_len]; rfl)
  have OV := Lib.hid (show V.all (·.oneCell') = true by rw [hV]; exact vI_one _)
  have HZB := Lib.hid (show Try.prog.built 44 [] = some Z by rw [hZ]; exact zero12_built)
  have EQ := Lib.hid (show ∀ w, (Op.equalIn 10000 44 (.agg V) (.agg Z)).run Try.prog w = .ok false w from fun w => by rw [hV, hZ, ← zI_vec, eq12 macS_len zI_len, decide_eq_false macS_not])
  have HV := Lib.hid hV
  have SZ := Lib.hid (fun w => (size_any 1 w).mono fun e w' h2 => (show e = .returned (.int .i64 20) ∧ w = w' from h2))
  clear B0 K0 hM hZ hV
  go_enter Try.func10, Try.ntmps10
  go_upto_region 2 with (first
    | (go_at_call 11; (with_reducible refine KT.out.mono ?_); rintro e w1 ⟨A1, c1, rfl, K1, B1⟩))
  have HB1 := Lib.hid B1
  obtain ⟨W1, hW1⟩ : ∃ W1, W1 = w1.alloc (.cells #[.int .u8 97] 5 (1, 2)) := ⟨_, rfl⟩
  have kd := kc w1
  rw [← hW1] at kd
  have BW1 : Below w1.heap.size w1 W1 := by rw [hW1]; exact alloc_below _ _
  have HS1 : W1.heap.size = w1.heap.size + 1 := by rw [hW1]; exact alloc_size _ _
  have KM := lit1_key w1 97 (by unfold Byte; decide) 5 (1, 2)
  rw [← hW1] at KM
  have BW2 : Below w1.heap.size w1 (W1.alloc (.cells #[.slice (some ⟨w1.heap.size, 0, none⟩) 1 1] 22)) := BW1.alloc BW1.size _
  have PP := parts1 (KM.partAt (by decide)) 22
  have MT := Lib.hid ((mac_any8 2 A1 16 c1 (ints keyT) (some ⟨W1.heap.size, 0, none⟩) 1 1 _ [97] _ (K1.below BW2) PP rfl (by decide) (cat1 _)).mono fun e w' h => (show e = Ending.returned (.tuple #[.agg V, .int .i64 0]) ∧ Below w1.heap.size w1 w' from ⟨by rw [h.1, alive_mac, alive_macE, ← HV.out], BW2.trans (h.2.mono BW2.size)⟩))
  have HHS1 := Lib.hid HS1
  have HW1 := Lib.hid hW1
  clear hW1 BW1 BW2 PP KM K1 B1 kc KT HS1
  go_upto_region 3 with (first
    | (go_at_call 17; (with_reducible refine MT.out.mono ?_); rintro e w2 ⟨rfl, B2⟩)
    | (refine wpList_store_row rfl 44 (.tmp 3) (.tmp 16) rfl w2.heap.size V rfl rfl _ _ (heap_alloc_new _ _) UV.out ZV.out OV.out ?_))
  rw [World.setRow_alloc_new]
  have RV := Lib.hid (heap_alloc_new w2 (.cells V 44))
  have BB := Lib.hid ((HB1.out.trans (B2.mono HB1.out.size)).alloc (HB1.out.trans (B2.mono HB1.out.size)).size (.cells V 44))
  clear B2 MT kd hmk hzv
  generalize w2.alloc (.cells V 44) = w3 at *
  generalize w2.heap.size = g at *
  have hq := EQ.out w3
  have hgd := guard12
  go_wp2_with (first
    | (go_at_call 13; (with_reducible refine (SZ.out _).mono ?_); rintro e w' ⟨rfl, rfl⟩)
    | (refine wpList_load_rowG (by rfl) 44 (.tmp 3) rfl g rfl _ _ _ _ RV.out Try.underlying44 rfl UV.out ?_)
    | (refine wpList_zeroG (by rfl) 44 rfl _ HZB.out ?_))
  go_ret
  exact ⟨rfl, BB.out⟩
end Go.Proofs.Ythbgjjfhgbkbdaa.kdC

/-
  Traffic keys: the walks of KdfKeys, KdfSizes and KdfMacs.
-/
namespace Go.Proofs.Ythbgjjfhgbkbdaa.kdC
open Go.ChangeShapes Go.WideShapes Go.ChangeAt Go.RowKit
open Go.Proofs.Ythbgjjfhgbkbdaa.memC Go.Proofs.Ythbgjjfhgbkbdaa.genC Go.Proofs.Ythbgjjfhgbkbdaa.aesM Go.Proofs.Ythbgjjfhgbkbdaa.aesC Go.Proofs.Ythbgjjfhgbkbdaa.butC Go.Proofs.Ythbgjjfhgbkbdaa.freeC Go.Proofs.Ythbgjjfhgbkbdaa.partsC
set_option linter.unusedVariables false
theorem str_of {w : World} {A : Option Addr} {n c : Nat} {xs : List Int} (h : Key w A n c xs) : (convert 22 9 (.slice A n c)).run Try.prog w = .ok (.string (strOfNums xs)) w :=
  run_string h.nums c _ _ _ Try.underlying22 Try.underlying5 Try.underlying9
theorem keyL_len (a : Int) (m ctx : List Int) (h : keyE a m = 0) : (keyL a m ctx).length = sizeN a := by
  unfold keyE at h
  by_cases h0 : sizeN a = 0
  · rw [if_pos h0] at h; exact absurd h (by decide)
  · rw [if_neg h0] at h
    by_cases hw : m.length = 0 ∨ 80 < m.length
    · rw [if_pos hw] at h; exact absurd h (by decide)
    · unfold keyL
      rw [if_neg (fun h => h.elim h0 hw)]
      by_cases h1 : a = 1
      · subst h1; rw [if_pos rfl]; exact shaK_len _ _
      · rw [if_neg h1]
        unfold sizeN at h0 ⊢
        rw [if_neg h1] at h0 ⊢
        by_cases h2 : a = 2
        · rw [if_pos h2]; exact aesK_len _ _
        · rw [if_neg h2] at h0; exact absurd rfl h0
theorem keyE_err (a : Int) (m ctx : List Int) : (keyE a m = 0 → sizeN a ≠ 0) ∧ (keyE a m ≠ 0 → keyL a m ctx = []) := by
  unfold keyE keyL
  by_cases h0 : sizeN a = 0
  · rw [if_pos h0, if_pos (.inl h0)]; exact ⟨fun h => absurd h (by decide), fun _ => rfl⟩
  · refine ⟨fun _ => h0, fun h => ?_⟩
    rw [if_neg h0] at h
    by_cases hw : m.length = 0 ∨ 80 < m.length
    · rw [if_pos (.inr hw)]
    · rw [if_neg hw] at h; exact absurd rfl h
theorem keyE_mac (a : Int) (k : List Int) (h : k.length = sizeN a) (h0 : sizeN a ≠ 0) : macE a k = 0 := by
  unfold macE
  rw [if_neg h0, if_neg (fun h2 => h2 h)]
theorem keys_long (a : Int) (A : Option Addr) (n c : Nat) (A2 : Option Addr) (n2 c2 : Nat) (w : World) (hn : n ≤ 9223372036854775807) (hn2 : n2 ≤ 9223372036854775807) (h : 300 < n ∨ 300 < n2) :
    Calls Try.prog 3 #[.int .i64 a, .slice A n c, .slice A2 n2 c2] w (AliveRet w) := by
  by_cases h1 : 300 < n
  · have L1 := Lib.hid (fun w => (long_any A n c w hn).mono fun e w' h2 => (show e = Ending.returned (.bool true) ∧ w = w' by rw [decide_eq_true h1] at h2; exact h2))
    have L2 := L1
    clear h h1
    go_enter Try.func3, Try.ntmps3
    go_wp2_with (first
      | (go_at_call 9; (with_reducible refine (L1.out _).mono ?_); rintro e w' ⟨rfl, rfl⟩)
      | (go_at_call 9; (with_reducible refine (L2.out _).mono ?_); rintro e w' ⟨rfl, rfl⟩)
      | (go_at_call 10; refine (alive_any _).mono ?_; rintro e w' ⟨rfl, B⟩))
    go_ret
    exact ⟨rfl, B⟩
  · have L1 := Lib.hid (fun w => (long_any A n c w hn).mono fun e w' h2 => (show e = Ending.returned (.bool false) ∧ w = w' by rw [decide_eq_false h1] at h2; exact h2))
    have L2 := Lib.hid (fun w => (long_any A2 n2 c2 w hn2).mono fun e w' h2 => (show e = Ending.returned (.bool true) ∧ w = w' by rw [decide_eq_true (h.resolve_left h1)] at h2; exact h2))
    clear h h1
    go_enter Try.func3, Try.ntmps3
    go_wp2_with (first
      | (go_at_call 9; (with_reducible refine (L1.out _).mono ?_); rintro e w' ⟨rfl, rfl⟩)
      | (go_at_call 9; (with_reducible refine (L2.out _).mono ?_); rintro e w' ⟨rfl, rfl⟩)
      | (go_at_call 10; refine (alive_any _).mono ?_; rintro e w' ⟨rfl, B⟩))
    go_ret
    exact ⟨rfl, B⟩
set_option maxRecDepth 100000 in
set_option maxHeartbeats 1000000 in
theorem keys_short (a : Int) (A : Option Addr) (n c : Nat) (m : List Int) (A2 : Option Addr) (n2 c2 : Nat) (msg : List Int) (w : World) (hk : Key w A n c m) (hm : Key w A2 n2 c2 msg) (h : n ≤ 300) (h2 : n2 ≤ 300) :
    Calls Try.prog 3 #[.int .i64 a, .slice A n c, .slice A2 n2 c2] w (AliveRet w) := by
  have L1 := Lib.hid (fun w => (long_any A n c w (by omega)).mono fun e w' h2 => (show e = Ending.returned (.bool false) ∧ w = w' by rw [decide_eq_false (by omega : ¬ 300 < n)] at h2; exact h2))
  have L2 := Lib.hid (fun w => (long_any A2 n2 c2 w (by omega)).mono fun e w' h3 => (show e = Ending.returned (.bool false) ∧ w = w' by rw [decide_eq_false (by omega : ¬ 300 < n2)] at h3; exact h3))
  have KA := Lib.hid (key_any a A n c m A2 n2 c2 msg w hk hm h2)
  have KB := Lib.hid (fun (w' : World) (B : Below w.heap.size w w') => rkey_any a A n c m A2 n2 c2 msg w' (hk.below B) (hm.below B) h2)
  have SZ := Lib.hid (size_any a)
  have RZ := Lib.hid (rsize_any a)
  generalize keyL a m msg = T at *
  generalize keyE a m = E at *
  generalize sizeN a = s at *
  clear hk hm h h2
  go_enter Try.func3, Try.ntmps3
  go_upto_region 5 with (first
    | (go_at_call 9; (with_reducible refine (L1.out _).mono ?_); rintro e w' ⟨rfl, rfl⟩)
    | (go_at_call 9; (with_reducible refine (L2.out _).mono ?_); rintro e w' ⟨rfl, rfl⟩)
    | (go_at_call 11; (with_reducible refine KA.out.mono ?_); rintro e w1 ⟨A3, n3, c3, rfl, K3, B3⟩
       have HB3 := Lib.hid B3
       have HK3 := Lib.hid K3)
    | (go_at_call 12; (with_reducible refine (KB.out _ HB3.out).mono ?_); rintro e w2 ⟨A4, n4, c4, rfl, K4, B4⟩
       have HB4 := Lib.hid (HB3.out.trans (B4.mono HB3.out.size))))
  have k1 := str_of (HK3.out.below B4)
  have k2 := str_of K4
  clear K3 K4 B3 B4 KA KB
  go_wp2_with (first
    | (go_at_call 13; (with_reducible refine (SZ.out _).mono ?_); rintro e w' ⟨rfl, rfl⟩)
    | (go_at_call 14; (with_reducible refine (RZ.out _).mono ?_); rintro e w' ⟨rfl, rfl⟩)
    | (go_at_call 10; refine (alive_any _).mono ?_; rintro e w9 ⟨rfl, B9⟩))
  go_ret
  exact ⟨rfl, HB4.out.trans (B9.mono HB4.out.size)⟩
theorem keys_walk (a : Int) (A : Option Addr) (n c : Nat) (m : List Int) (A2 : Option Addr) (n2 c2 : Nat) (msg : List Int) (w : World) (hk : Key w A n c m) (hm : Key w A2 n2 c2 msg) :
    Calls Try.prog 3 #[.int .i64 a, .slice A n c, .slice A2 n2 c2] w (AliveRet w) := by
  have h1 := hk.cap
  have h2 := hk.max
  have h3 := hm.cap
  have h4 := hm.max
  by_cases h : 300 < n ∨ 300 < n2
  · exact keys_long a A n c A2 n2 c2 w (by omega) (by omega) h
  · exact keys_short a A n c m A2 n2 c2 msg w hk hm (by omega) (by omega)
theorem sizes_long (a : Int) (A : Option Addr) (n c : Nat) (A2 : Option Addr) (n2 c2 : Nat) (w : World) (hn : n ≤ 9223372036854775807) (hn2 : n2 ≤ 9223372036854775807) (h : 300 < n ∨ 300 < n2) :
    Calls Try.prog 7 #[.int .i64 a, .slice A n c, .slice A2 n2 c2] w (AliveRet w) := by
  by_cases h1 : 300 < n
  · have L1 := Lib.hid (fun w => (long_any A n c w hn).mono fun e w' h2 => (show e = Ending.returned (.bool true) ∧ w = w' by rw [decide_eq_true h1] at h2; exact h2))
    have L2 := L1
    clear h h1
    go_enter Try.func7, Try.ntmps7
    go_wp2_with (first
      | (go_at_call 9; (with_reducible refine (L1.out _).mono ?_); rintro e w' ⟨rfl, rfl⟩)
      | (go_at_call 9; (with_reducible refine (L2.out _).mono ?_); rintro e w' ⟨rfl, rfl⟩)
      | (go_at_call 10; refine (alive_any _).mono ?_; rintro e w' ⟨rfl, B⟩))
    go_ret
    exact ⟨rfl, B⟩
  · have L1 := Lib.hid (fun w => (long_any A n c w hn).mono fun e w' h2 => (show e = Ending.returned (.bool false) ∧ w = w' by rw [decide_eq_false h1] at h2; exact h2))
    have L2 := Lib.hid (fun w => (long_any A2 n2 c2 w hn2).mono fun e w' h2 => (show e = Ending.returned (.bool true) ∧ w = w' by rw [decide_eq_true (h.resolve_left h1)] at h2; exact h2))
    clear h h1
    go_enter Try.func7, Try.ntmps7
    go_wp2_with (first
      | (go_at_call 9; (with_reducible refine (L1.out _).mono ?_); rintro e w' ⟨rfl, rfl⟩)
      | (go_at_call 9; (with_reducible refine (L2.out _).mono ?_); rintro e w' ⟨rfl, rfl⟩)
      | (go_at_call 10; refine (alive_any _).mono ?_; rintro e w' ⟨rfl, B⟩))
    go_ret
    exact ⟨rfl, B⟩
set_option maxRecDepth 100000 in
set_option maxHeartbeats 1000000 in
theorem sizes_short (a : Int) (A : Option Addr) (n c : Nat) (m : List Int) (A2 : Option Addr) (n2 c2 : Nat) (msg : List Int) (w : World) (hk : Key w A n c m) (hm : Key w A2 n2 c2 msg) (h : n ≤ 300) (h2 : n2 ≤ 300) :
    Calls Try.prog 7 #[.int .i64 a, .slice A n c, .slice A2 n2 c2] w (AliveRet w) := by
  have L1 := Lib.hid (fun w => (long_any A n c w (by omega)).mono fun e w' h2 => (show e = Ending.returned (.bool false) ∧ w = w' by rw [decide_eq_false (by omega : ¬ 300 < n)] at h2; exact h2))
  have L2 := Lib.hid (fun w => (long_any A2 n2 c2 w (by omega)).mono fun e w' h3 => (show e = Ending.returned (.bool false) ∧ w = w' by rw [decide_eq_false (by omega : ¬ 300 < n2)] at h3; exact h3))
  have KA := Lib.hid (key_any a A n c m A2 n2 c2 msg w hk hm h2)
  have HM := Lib.hid hm
  have SZ := Lib.hid (size_any a)
  have EL := Lib.hid (keyL_len a m msg)
  have E0 := Lib.hid (keyE_err a m msg)
  have EM := Lib.hid (keyE_mac a (keyL a m msg))
  generalize keyL a m msg = T at *
  generalize keyE a m = E at *
  clear hk hm h
  by_cases hE : E = 0
  · subst hE
    obtain ⟨s, hs⟩ : ∃ s, s = sizeN a := ⟨_, rfl⟩
    have ET := Lib.hid (show T.length = s by rw [hs]; exact EL.out rfl)
    have E1 := Lib.hid (show macE a T = 0 from EM.out (EL.out rfl) (E0.out.1 rfl))
    rw [← hs] at SZ
    clear hs E0 EL EM
    go_enter Try.func7, Try.ntmps7
    go_upto_region 6 with (first
      | (go_at_call 9; (with_reducible refine (L1.out _).mono ?_); rintro e w' ⟨rfl, rfl⟩)
      | (go_at_call 9; (with_reducible refine (L2.out _).mono ?_); rintro e w' ⟨rfl, rfl⟩)
      | (go_at_call 11; (with_reducible refine KA.out.mono ?_); rintro e w1 ⟨A3, n3, c3, rfl, K3, B3⟩))
    have hn3 : n3 = s := by rw [← K3.nums.len, ET.out]
    subst hn3
    have HB3 := Lib.hid B3
    have BW := alloc_below w1 (.cells #[.slice A2 n2 c2] 22)
    obtain ⟨V, hV⟩ : ∃ V, V = vI (macX a T msg) := ⟨_, rfl⟩
    have MT := Lib.hid ((mac_any8 a A3 n3 c3 T (some ⟨w1.heap.size, 0, none⟩) 1 1 _ msg _ (K3.below BW) (parts1 ((HM.out.below B3).partAt (by omega)) 22) rfl (by decide) (cat1 _)).mono fun e w' h => (show e = Ending.returned (.tuple #[.agg V, .int .i64 0]) ∧ Below w1.heap.size w1 w' from ⟨by rw [h.1, E1.out, hV], BW.trans (h.2.mono BW.size)⟩))
    obtain ⟨Z, hZ⟩ : ∃ Z, Z = vec (zs 12) := ⟨_, rfl⟩
    have hzv := zero12
    rw [← hZ] at hzv
    have UV := Lib.hid (show (Try.prog.info? 44).map (·.size) = some V.size by rw [b12_info, hV, vI_size, macX_len])
    have ZV := Lib.hid (show Z.size = V.size by rw [hZ, hV, vec_size, vI_size, zs_len, macX_len])
    have OV := Lib.hid (show V.all (·.oneCell') = true by rw [hV]; exact vI_one _)
    clear hV hZ K3 B3 BW KA ET
    go_upto_region 7 with (first
      | (go_at_call 17; (with_reducible refine MT.out.mono ?_); rintro e w2 ⟨rfl, B2⟩)
      | (refine wpList_store_row rfl 44 (.tmp 9) (.tmp 39) rfl w2.heap.size V rfl rfl _ _ (heap_alloc_new _ _) UV.out ZV.out OV.out ?_))
    rw [World.setRow_alloc_new]
    have BB := Lib.hid ((HB3.out.trans (B2.mono HB3.out.size)).alloc (HB3.out.trans (B2.mono HB3.out.size)).size (.cells V 44))
    clear B2 MT hzv
    generalize w2.alloc (.cells V 44) = w3 at *
    go_wp2_with (first
      | (go_at_call 13; (with_reducible refine (SZ.out _).mono ?_); rintro e w' ⟨rfl, rfl⟩)
      | (go_at_call 10; refine (alive_any _).mono ?_; rintro e w9 ⟨rfl, B9⟩))
    go_ret
    exact ⟨rfl, BB.out.trans (B9.mono BB.out.size)⟩
  · have ET := Lib.hid (show T = [] from E0.out.2 hE)
    have hE2 : (E == 0) = false := by simpa using hE
    clear E0 EL EM
    go_enter Try.func7, Try.ntmps7
    go_upto_region 5 with (first
      | (go_at_call 9; (with_reducible refine (L1.out _).mono ?_); rintro e w' ⟨rfl, rfl⟩)
      | (go_at_call 9; (with_reducible refine (L2.out _).mono ?_); rintro e w' ⟨rfl, rfl⟩)
      | (go_at_call 11; (with_reducible refine KA.out.mono ?_); rintro e w1 ⟨A3, n3, c3, rfl, K3, B3⟩))
    have hn3 : n3 = 0 := by rw [← K3.nums.len, ET.out]; rfl
    subst hn3
    have HB3 := Lib.hid B3
    clear K3 B3 KA ET
    go_wp2_with (first
      | (go_at_call 10; refine (alive_any _).mono ?_; rintro e w9 ⟨rfl, B9⟩))
    go_ret
    exact ⟨rfl, HB3.out.trans (B9.mono HB3.out.size)⟩
theorem sizes_walk (a : Int) (A : Option Addr) (n c : Nat) (m : List Int) (A2 : Option Addr) (n2 c2 : Nat) (msg : List Int) (w : World) (hk : Key w A n c m) (hm : Key w A2 n2 c2 msg) :
    Calls Try.prog 7 #[.int .i64 a, .slice A n c, .slice A2 n2 c2] w (AliveRet w) := by
  have h1 := hk.cap
  have h2 := hk.max
  have h3 := hm.cap
  have h4 := hm.max
  by_cases h : 300 < n ∨ 300 < n2
  · exact sizes_long a A n c A2 n2 c2 w (by omega) (by omega) h
  · exact sizes_short a A n c m A2 n2 c2 msg w hk hm (by omega) (by omega)
theorem macs_long (a : Int) (A : Option Addr) (n c : Nat) (A2 : Option Addr) (n2 c2 : Nat) (w : World) (hn : n ≤ 9223372036854775807) (hn2 : n2 ≤ 9223372036854775807) (h : 300 < n ∨ 300 < n2) :
    Calls Try.prog 5 #[.int .i64 a, .slice A n c, .slice A2 n2 c2] w (AliveRet w) := by
  by_cases h1 : 300 < n
  · have L1 := Lib.hid (fun w => (long_any A n c w hn).mono fun e w' h2 => (show e = Ending.returned (.bool true) ∧ w = w' by rw [decide_eq_true h1] at h2; exact h2))
    have L2 := L1
    clear h h1
    go_enter Try.func5, Try.ntmps5
    go_wp2_with (first
      | (go_at_call 9; (with_reducible refine (L1.out _).mono ?_); rintro e w' ⟨rfl, rfl⟩)
      | (go_at_call 9; (with_reducible refine (L2.out _).mono ?_); rintro e w' ⟨rfl, rfl⟩)
      | (go_at_call 10; refine (alive_any _).mono ?_; rintro e w' ⟨rfl, B⟩))
    go_ret
    exact ⟨rfl, B⟩
  · have L1 := Lib.hid (fun w => (long_any A n c w hn).mono fun e w' h2 => (show e = Ending.returned (.bool false) ∧ w = w' by rw [decide_eq_false h1] at h2; exact h2))
    have L2 := Lib.hid (fun w => (long_any A2 n2 c2 w hn2).mono fun e w' h2 => (show e = Ending.returned (.bool true) ∧ w = w' by rw [decide_eq_true (h.resolve_left h1)] at h2; exact h2))
    clear h h1
    go_enter Try.func5, Try.ntmps5
    go_wp2_with (first
      | (go_at_call 9; (with_reducible refine (L1.out _).mono ?_); rintro e w' ⟨rfl, rfl⟩)
      | (go_at_call 9; (with_reducible refine (L2.out _).mono ?_); rintro e w' ⟨rfl, rfl⟩)
      | (go_at_call 10; refine (alive_any _).mono ?_; rintro e w' ⟨rfl, B⟩))
    go_ret
    exact ⟨rfl, B⟩
set_option maxRecDepth 100000 in
set_option maxHeartbeats 1000000 in
theorem macs_short (a : Int) (A : Option Addr) (n c : Nat) (m : List Int) (A2 : Option Addr) (n2 c2 : Nat) (msg : List Int) (w : World) (hk : Key w A n c m) (hm : Key w A2 n2 c2 msg) (h : n ≤ 300) (h2 : n2 ≤ 300) :
    Calls Try.prog 5 #[.int .i64 a, .slice A n c, .slice A2 n2 c2] w (AliveRet w) := by
  have L1 := Lib.hid (fun w => (long_any A n c w (by omega)).mono fun e w' h2 => (show e = Ending.returned (.bool false) ∧ w = w' by rw [decide_eq_false (by omega : ¬ 300 < n)] at h2; exact h2))
  have L2 := Lib.hid (fun w => (long_any A2 n2 c2 w (by omega)).mono fun e w' h3 => (show e = Ending.returned (.bool false) ∧ w = w' by rw [decide_eq_false (by omega : ¬ 300 < n2)] at h3; exact h3))
  have HK := Lib.hid hk
  have HM := Lib.hid hm
  have BW := alloc_below w (.cells #[.slice A2 n2 c2] 22)
  obtain ⟨V, hV⟩ : ∃ V, V = vI (macX a m msg) := ⟨_, rfl⟩
  obtain ⟨E, hE⟩ : ∃ E, E = macE a m := ⟨_, rfl⟩
  have MT := Lib.hid ((mac_any8 a A n c m (some ⟨w.heap.size, 0, none⟩) 1 1 _ msg _ (hk.below BW) (parts1 (hm.partAt (by omega)) 22) rfl (by decide) (cat1 _)).mono fun e w' h => (show e = Ending.returned (.tuple #[.agg V, .int .i64 E]) ∧ Below w.heap.size w w' from ⟨by rw [h.1, hV, hE], BW.trans (h.2.mono BW.size)⟩))
  have RT := Lib.hid (fun (w' : World) (B : Below w.heap.size w w') => (rmac_any8 a A n c m A2 n2 c2 msg w' (hk.below B) (hm.below B) (by omega)).mono fun e w2 h => (show e = Ending.returned (.tuple #[.agg V, .int .i64 E]) ∧ Below w'.heap.size w' w2 from ⟨by rw [h.1, hV, hE], h.2⟩))
  obtain ⟨Z, hZ⟩ : ∃ Z, Z = vec (zs 12) := ⟨_, rfl⟩
  have hzv := zero12
  rw [← hZ] at hzv
  have UV := Lib.hid (show (Try.prog.info? 44).map (·.size) = some V.size by rw [b12_info, hV, vI_size, macX_len])
  have ZV := Lib.hid (show Z.size = V.size by rw [hZ, hV, vec_size, vI_size, zs_len, macX_len])
  have OV := Lib.hid (show V.all (·.oneCell') = true by rw [hV]; exact vI_one _)
  have EQ := Lib.hid (show ∀ w, (Op.equalIn 10000 44 (.agg V) (.agg V)).run Try.prog w = .ok true w from fun w => by rw [hV, eq12 (macX_len _ _ _) (macX_len _ _ _), decide_eq_true rfl])
  clear hk hm h h2 hV hE hZ BW
  go_enter Try.func5, Try.ntmps5
  go_upto_region 4 with (first
    | (go_at_call 9; (with_reducible refine (L1.out _).mono ?_); rintro e w' ⟨rfl, rfl⟩)
    | (go_at_call 9; (with_reducible refine (L2.out _).mono ?_); rintro e w' ⟨rfl, rfl⟩)
    | (go_at_call 17; (with_reducible refine MT.out.mono ?_); rintro e w1 ⟨rfl, B1⟩)
    | (refine wpList_store_row rfl 44 (.tmp 7) (.tmp 24) rfl w1.heap.size V rfl rfl _ _ (heap_alloc_new _ _) UV.out ZV.out OV.out ?_))
  rw [World.setRow_alloc_new]
  have BB := Lib.hid ((B1.alloc B1.size (.cells V 44)))
  have R1 := Lib.hid (heap_alloc_new w1 (.cells V 44))
  have lt1 := Lib.hid (show w1.heap.size < (w1.alloc (.cells V 44)).heap.size by rw [alloc_size]; omega)
  clear B1 MT
  generalize w1.alloc (.cells V 44) = w2 at *
  generalize w1.heap.size = g at *
  go_upto_region 5 with (first
    | (go_at_call 18; (with_reducible refine (RT.out _ BB.out).mono ?_); rintro e w3 ⟨rfl, B3⟩)
    | (refine wpList_store_row rfl 44 (.tmp 9) (.tmp 31) rfl w3.heap.size V rfl rfl _ _ (heap_alloc_new _ _) UV.out ZV.out OV.out ?_))
  rw [World.setRow_alloc_new]
  have BC := Lib.hid ((BB.out.trans (B3.mono BB.out.size)).alloc (BB.out.trans (B3.mono BB.out.size)).size (.cells V 44))
  have R2 := Lib.hid (heap_alloc_new w3 (.cells V 44))
  have R3 := Lib.hid (((alloc_below w3 (.cells V 44)).block _ (Nat.lt_of_lt_of_le lt1.out B3.size)).trans ((B3.block _ lt1.out).trans R1.out))
  clear B3 RT R1 hzv
  generalize w3.alloc (.cells V 44) = w4 at *
  generalize w3.heap.size = g2 at *
  have hq := EQ.out w4
  have hgd := guard12
  go_wp2_with (first
    | (refine wpList_load_row rfl 44 (.tmp 7) rfl g rfl _ _ _ _ R3.out Try.underlying44 rfl UV.out ?_)
    | (refine wpList_load_row rfl 44 (.tmp 9) rfl g2 rfl _ _ _ _ R2.out Try.underlying44 rfl UV.out ?_)
    | (go_at_call 10; refine (alive_any _).mono ?_; rintro e w9 ⟨rfl, B9⟩))
  go_ret
  exact ⟨rfl, BC.out.trans (B9.mono BC.out.size)⟩
theorem macs_walk (a : Int) (A : Option Addr) (n c : Nat) (m : List Int) (A2 : Option Addr) (n2 c2 : Nat) (msg : List Int) (w : World) (hk : Key w A n c m) (hm : Key w A2 n2 c2 msg) :
    Calls Try.prog 5 #[.int .i64 a, .slice A n c, .slice A2 n2 c2] w (AliveRet w) := by
  have h1 := hk.cap
  have h2 := hk.max
  have h3 := hm.cap
  have h4 := hm.max
  by_cases h : 300 < n ∨ 300 < n2
  · exact macs_long a A n c A2 n2 c2 w (by omega) (by omega) h
  · exact macs_short a A n c m A2 n2 c2 msg w hk hm (by omega) (by omega)
end Go.Proofs.Ythbgjjfhgbkbdaa.kdC

/-
  Traffic keys: addresses, ends, and what Context of the code does.
-/
namespace Go.Proofs.Ythbgjjfhgbkbdaa.kdC
open Go.ChangeShapes Go.WideShapes Go.ChangeAt Go.RowKit
open Go.Proofs.Ythbgjjfhgbkbdaa.memC Go.Proofs.Ythbgjjfhgbkbdaa.genC Go.Proofs.Ythbgjjfhgbkbdaa.aesM Go.Proofs.Ythbgjjfhgbkbdaa.aesC Go.Proofs.Ythbgjjfhgbkbdaa.butC Go.Proofs.Ythbgjjfhgbkbdaa.freeC Go.Proofs.Ythbgjjfhgbkbdaa.partsC
set_option linter.unusedVariables false
/-- what there was stands -/
def Gr (w0 w : World) : Prop := Below w0.heap.size w0 w
theorem lt_of_row {w : World} {g : Nat} {o : Obj} (h : w.heap[g]? = some o) : g < w.heap.size := by
  rcases Nat.lt_or_ge g w.heap.size with h' | h'
  · exact h'
  · rw [Array.getElem?_eq_none h'] at h; cases h
theorem Gr.below {w0 w w' : World} (h : Gr w0 w) (b : Below w.heap.size w w') : Gr w0 w' := Below.trans h (b.mono (Below.size h))
theorem Gr.row {w0 w : World} (h : Gr w0 w) {g : Nat} {o : Obj} (hg : w0.heap[g]? = some o) : w.heap[g]? = some o := by rw [Below.block h g (lt_of_row hg)]; exact hg
theorem Gr.mono {w0 w : World} {B : Nat} (h : Gr w0 w) (hB : B ≤ w0.heap.size) : Below B w0 w := Below.mono h hB
theorem gr_drew (w : World) : Gr w w.drew := (Below.refl _ _).drew
/-- an address's cells -/
structure AddrC (cs : Array Value) (six : Bool) (bs : List Int) : Prop where
  size : cs.size = 17
  six : cs[0]? = some (.bool six)
  len : bs.length = 16
  at_ : ∀ i, i < 16 → cs[1 + i]? = some (.int .u8 (bs.getD i 0))
  byte : ∀ x ∈ bs, Byte x
/-- an end's cells -/
structure EndC (cs : Array Value) (six : Bool) (bs : List Int) (p : Int) : Prop where
  size : cs.size = 18
  six : cs[0]? = some (.bool six)
  len : bs.length = 16
  at_ : ∀ i, i < 16 → cs[1 + i]? = some (.int .u8 (bs.getD i 0))
  byte : ∀ x ∈ bs, Byte x
  port : cs[17]? = some (.int .u16 p)
  p0 : 0 ≤ p
  p1 : p ≤ 65535
/-- its address -/
def adr (cs : Array Value) : Array Value := (cs.toList.take 17).toArray
theorem adr_at {cs : Array Value} {j : Nat} (h : j < 17) : (adr cs)[j]? = cs[j]? := by unfold adr; rw [List.getElem?_toArray, List.getElem?_take, if_pos h, Array.getElem?_toList]
theorem adr_cell {cs : Array Value} {j : Nat} {v : Value} (h : (adr cs)[j]? = some v) : cs[j]? = some v := by
  have hj : j < 17 := by
    have h1 := (Array.getElem?_eq_some_iff.1 h).1
    unfold adr at h1
    rw [List.size_toArray, List.length_take] at h1; omega
  rwa [adr_at hj] at h
theorem EndC.addr {cs : Array Value} {six : Bool} {bs : List Int} {p : Int} (h : EndC cs six bs p) : AddrC (adr cs) six bs :=
  ⟨by unfold adr; rw [List.size_toArray, List.length_take, Array.length_toList, h.size]; rfl, by rw [adr_at (by decide)]; exact h.six, h.len, fun i hi => by rw [adr_at (by omega)]; exact h.at_ i hi, h.byte⟩
theorem adr_size {cs : Array Value} {six : Bool} {bs : List Int} {p : Int} (h : EndC cs six bs p) : (adr cs).size = 17 := h.addr.size
theorem addr_info : (Try.prog.info? 34).map (·.size) = some 17 := by kernel_rfl
theorem end_info : (Try.prog.info? 37).map (·.size) = some 18 := by kernel_rfl
/-- the bytes that an address has -/
def adrN (six : Bool) : Nat := if six then 16 else 4
def adrL (six : Bool) (bs : List Int) : List Int := bs.take (adrN six)
theorem adrN_le (six : Bool) : adrN six ≤ 16 := by cases six <;> decide
theorem adrL_len {six : Bool} {bs : List Int} (h : bs.length = 16) : (adrL six bs).length = adrN six := by unfold adrL; rw [List.length_take, h]; cases six <;> rfl
theorem cell_new (w : World) (cs : Array Value) (T : TypeId) (j : Nat) : (w.alloc (.cells cs T)).cell? ⟨w.heap.size, j, none⟩ = cs[j]? := cell_of_row _ _ j cs T (0, 0) (heap_alloc_new w _)
def AdrRet (w : World) (n : Nat) (L : List Int) (e : Ending) (w' : World) : Prop := ∃ A, e = .returned (.slice A n 16) ∧ Key w' A n 16 L ∧ Below w.heap.size w w'
theorem addr_key {cs : Array Value} {six : Bool} {bs : List Int} (h : AddrC cs six bs) (w : World) {n : Nat} (hn : n ≤ 16) : Key (w.alloc (.cells cs 34)) (some ⟨w.heap.size, 1, none⟩) n 16 (bs.take n) :=
  ⟨⟨by rw [List.length_take, h.len]; omega, fun _ => ⟨_, 1, rfl, by rw [alloc_size]; omega, fun i hi => by rw [cell_new, h.at_ i (by omega)]; simp [List.getD_eq_getElem?_getD, hi]⟩⟩, fun x hx => h.byte x (List.mem_of_mem_take hx), hn, by decide⟩
set_option maxRecDepth 100000 in
theorem address_any (cs : Array Value) (six : Bool) (bs : List Int) (w : World) (h : AddrC cs six bs) (n : Nat) (L : List Int) (hn : adrN six = n) (hL : adrL six bs = L) :
    Calls Try.prog 29 #[.agg cs] w (AdrRet w n L) := by
  have k1 : (w.alloc (.cells cs 34)).cell? ⟨w.heap.size, 0, none⟩ = some (.bool six) := by rw [cell_new]; exact h.six
  have K := Lib.hid (addr_key h w (adrN_le six))
  have B := Lib.hid (alloc_below w (.cells cs 34))
  subst hn hL
  clear h
  cases six
  all_goals
    go_enter Try.func29, Try.ntmps29
    go_wp2
    go_ret
    exact ⟨_, rfl, K.out, B.out⟩
/-- what a key hangs on -/
def ctxL (s : Bool) (b1 b2 : List Int) (p1 p2 i1 i2 : Int) : List Int := octC.putL (octC.putL (adrL s b1 ++ adrL s b2) 2 [p1, p2]) 4 [i1, i2]
def CoV (g1 g2 n : Nat) (C1 C2 : Array Value) (L1 L2 : List Int) : Nat → Value → World → Prop
  | 0, v, _ => v = .pointer (some ⟨g1, 0, none⟩)
  | 1, v, _ => v = .agg C1
  | 2, v, w => ∃ A, v = .slice A n 16 ∧ Key w A n 16 L1
  | 3, v, _ => v = .pointer (some ⟨g2, 0, none⟩)
  | 4, v, _ => v = .agg C2
  | 5, v, w => ∃ A, v = .slice A n 16 ∧ Key w A n 16 L2
  | 6, v, w => ∃ g A B, v = .slice (some ⟨g, 0, none⟩) 2 2 ∧ Parts w w.heap.size (some ⟨g, 0, none⟩) [⟨A, n, 16, L1⟩, ⟨B, n, 16, L2⟩]
  | 7, v, w => ∃ A c, v = .slice A (n + n) c ∧ Key w A (n + n) c (L1 ++ L2)
  | 8, v, w => ∃ A c, v = .slice A (n + n) c ∧ Key w A (n + n) c (L1 ++ L2)
  | _, _, _ => True
theorem CoV.keep (g1 g2 n : Nat) (C1 C2 : Array Value) (L1 L2 : List Int) (i : Nat) (v : Value) (w w' : World) (hb : Below w.heap.size w w') (h : CoV g1 g2 n C1 C2 L1 L2 i v w) : CoV g1 g2 n C1 C2 L1 L2 i v w' := by
  match i, h with
  | 0, h => exact h
  | 1, h => exact h
  | 2, h => obtain ⟨A, e, k⟩ := h; exact ⟨A, e, k.below hb⟩
  | 3, h => exact h
  | 4, h => exact h
  | 5, h => obtain ⟨A, e, k⟩ := h; exact ⟨A, e, k.below hb⟩
  | 6, h => obtain ⟨g, A, B, e, k⟩ := h; exact ⟨g, A, B, e, k.below hb hb.size⟩
  | 7, h => obtain ⟨A, c, e, k⟩ := h; exact ⟨A, c, e, k.below hb⟩
  | 8, h => obtain ⟨A, c, e, k⟩ := h; exact ⟨A, c, e, k.below hb⟩
  | _ + 9, _ => trivial
def CoT : List (Option Nat) := [none, none, none, none, none, none, none, none, none, none, some 8, none, none, none, none, none, none, none, some 0, some 1, some 2, some 3, some 4, some 5, some 6, some 7, none, none, none, none, none, none, none, none, none, none, none, none, none, none, none, none]
theorem ctx_unlike (cs1 cs2 : Array Value) (s1 s2 : Bool) (b1 b2 : List Int) (p1 p2 i1 i2 : Int) (w : World) (h1 : EndC cs1 s1 b1 p1) (h2 : EndC cs2 s2 b2 p2) (hs : s1 ≠ s2) :
    Calls Try.prog 15 #[.agg cs1, .agg cs2, .int .u32 i1, .int .u32 i2] w (TwoRet w [] 1) := by
  have e1 : (w.alloc (.cells cs1 37)).heap.size = w.heap.size + 1 := alloc_size _ _
  obtain ⟨W, hW⟩ : ∃ W, W = (w.alloc (.cells cs1 37)).alloc (.cells cs2 37) := ⟨_, rfl⟩
  have G1 : W.heap[w.heap.size]? = some (.cells cs1 37 (0, 0)) := by rw [hW, Below.block (alloc_below _ _) _ (by rw [e1]; omega)]; exact heap_alloc_new w _
  have G2 : W.heap[w.heap.size + 1]? = some (.cells cs2 37 (0, 0)) := by rw [hW, ← e1]; exact heap_alloc_new _ _
  have BW := Lib.hid (show Below w.heap.size w W by rw [hW]; exact ((Below.refl _ _).alloc (Nat.le_refl _) _).alloc (by simp) _)
  have k1 : W.cell? ⟨w.heap.size, 0, none⟩ = some (.bool s1) := by rw [cell_of_row W _ 0 _ _ (0, 0) G1]; exact h1.six
  have k2 : W.cell? ⟨w.heap.size + 1, 0, none⟩ = some (.bool s2) := by rw [cell_of_row W _ 0 _ _ (0, 0) G2]; exact h2.six
  have hne : (s1 != s2) = true := by simpa using hs
  clear h1 h2 G1 G2
  go_enter Try.func15, Try.ntmps15
  go_upto_region 1 with fail
  try rw [e1]
  rw [← hW]
  clear hW
  cases s1 <;> cases s2
  all_goals try (exfalso; exact hs rfl)
  all_goals
    clear hs hne
    go_wp2_with fail
    go_ret2
    exact ⟨none, 0, 0, rfl, key_nil _, BW.out⟩
set_option maxRecDepth 100000 in
set_option maxHeartbeats 1000000 in
theorem ctx_same (cs1 cs2 : Array Value) (s : Bool) (b1 b2 : List Int) (p1 p2 i1 i2 : Int) (w : World) (h1 : EndC cs1 s b1 p1) (h2 : EndC cs2 s b2 p2) (l1 : 0 ≤ i1) (m1 : i1 ≤ 4294967295) (l2 : 0 ≤ i2) (m2 : i2 ≤ 4294967295) :
    Calls Try.prog 15 #[.agg cs1, .agg cs2, .int .u32 i1, .int .u32 i2] w (TwoRet w (ctxL s b1 b2 p1 p2 i1 i2) 0) := by
  have e1 : (w.alloc (.cells cs1 37)).heap.size = w.heap.size + 1 := alloc_size _ _
  obtain ⟨W, hW⟩ : ∃ W, W = (w.alloc (.cells cs1 37)).alloc (.cells cs2 37) := ⟨_, rfl⟩
  have G1 : W.heap[w.heap.size]? = some (.cells cs1 37 (0, 0)) := by rw [hW, Below.block (alloc_below _ _) _ (by rw [e1]; omega)]; exact heap_alloc_new w _
  have G2 : W.heap[w.heap.size + 1]? = some (.cells cs2 37 (0, 0)) := by rw [hW, ← e1]; exact heap_alloc_new _ _
  have BW := Lib.hid (show Below w.heap.size w W by rw [hW]; exact ((Below.refl _ _).alloc (Nat.le_refl _) _).alloc (by simp) _)
  have k1 : W.cell? ⟨w.heap.size, 0, none⟩ = some (.bool s) := by rw [cell_of_row W _ 0 _ _ (0, 0) G1]; exact h1.six
  have k2 : W.cell? ⟨w.heap.size + 1, 0, none⟩ = some (.bool s) := by rw [cell_of_row W _ 0 _ _ (0, 0) G2]; exact h2.six
  have hne : (s != s) = false := by cases s <;> rfl
  obtain ⟨n, hn⟩ : ∃ n, n = adrN s := ⟨_, rfl⟩
  have hn16 : n ≤ 16 := by rw [hn]; exact adrN_le s
  have hn0 : 0 < n := by rw [hn]; cases s <;> decide
  obtain ⟨L1, hL1⟩ : ∃ L, L = adrL s b1 := ⟨_, rfl⟩
  obtain ⟨L2, hL2⟩ : ∃ L, L = adrL s b2 := ⟨_, rfl⟩
  have z1 : L1.length = n := by rw [hL1, hn]; exact adrL_len h1.len
  have z2 : L2.length = n := by rw [hL2, hn]; exact adrL_len h2.len
  obtain ⟨C1, hC1⟩ : ∃ C, C = adr cs1 := ⟨_, rfl⟩
  obtain ⟨C2, hC2⟩ : ∃ C, C = adr cs2 := ⟨_, rfl⟩
  have U1 := Lib.hid (show (Try.prog.info? 34).map (·.size) = some C1.size by rw [addr_info, hC1, adr_size h1])
  have U2 := Lib.hid (show (Try.prog.info? 34).map (·.size) = some C2.size by rw [addr_info, hC2, adr_size h2])
  have CL1 := Lib.hid (fun (w' : World) (hG : Gr W w') (j : Nat) (v : Value) (hv : C1[j]? = some v) => (show w'.cell? ⟨w.heap.size, 0 + j, none⟩ = some v by rw [Nat.zero_add, cell_of_row w' _ j _ _ (0, 0) (hG.row G1)]; exact adr_cell (by rw [← hC1]; exact hv)))
  have CL2 := Lib.hid (fun (w' : World) (hG : Gr W w') (j : Nat) (v : Value) (hv : C2[j]? = some v) => (show w'.cell? ⟨w.heap.size + 1, 0 + j, none⟩ = some v by rw [Nat.zero_add, cell_of_row w' _ j _ _ (0, 0) (hG.row G2)]; exact adr_cell (by rw [← hC2]; exact hv)))
  have AD1 := Lib.hid (fun w' => (show Calls Try.prog 29 #[.agg C1] w' (AdrRet w' n L1) by rw [hC1]; exact address_any _ s b1 w' h1.addr n L1 hn.symm hL1.symm))
  have AD2 := Lib.hid (fun w' => (show Calls Try.prog 29 #[.agg C2] w' (AdrRet w' n L2) by rw [hC2]; exact address_any _ s b2 w' h2.addr n L2 hn.symm hL2.symm))
  have Q1 := Lib.hid (fun (w' : World) (hG : Gr W w') => (show w'.cell? ⟨w.heap.size, 17, none⟩ = some (.int .u16 p1) by rw [cell_of_row w' _ 17 _ _ (0, 0) (hG.row G1)]; exact h1.port))
  have Q2 := Lib.hid (fun (w' : World) (hG : Gr W w') => (show w'.cell? ⟨w.heap.size + 1, 17, none⟩ = some (.int .u16 p2) by rw [cell_of_row w' _ 17 _ _ (0, 0) (hG.row G2)]; exact h2.port))
  have a1 := h1.p0
  have a2 := h1.p1
  have a3 := h2.p0
  have a4 := h2.p1
  have ZL := Lib.hid (show (L1 ++ L2).length = n + n by rw [List.length_append, z1, z2])
  have P1 := Lib.hid (fun (w' : World) (A : Option Addr) (c : Nat) (K : Key w' A (n + n) c (L1 ++ L2)) => put_key (P := some ⟨w'.heap.size, 0, none⟩) (m := 2) (c2 := 2) (ns := [p1, p2]) (w := w'.alloc (.cells #[.int .u64 p1, .int .u64 p2] 53)) 2 2 (n + n + 4) (octC.putL (L1 ++ L2) 2 [p1, p2]) rfl (by decide) (K.below (alloc_below _ _)) (lit64 w' [p1, p2] 53) (by omega) (by decide) rfl (by unfold octC.putL; rw [List.length_append, octC.flat_len, ZL.out]; simp))
  have P2 := Lib.hid (fun (w' : World) (A : Option Addr) (c : Nat) (K : Key w' A (n + n + 4) c (octC.putL (L1 ++ L2) 2 [p1, p2])) => put_key (P := some ⟨w'.heap.size, 0, none⟩) (m := 2) (c2 := 2) (ns := [i1, i2]) (w := w'.alloc (.cells #[.int .u64 i1, .int .u64 i2] 53)) 4 4 (n + n + 12) (octC.putL (octC.putL (L1 ++ L2) 2 [p1, p2]) 4 [i1, i2]) rfl (by decide) (K.below (alloc_below _ _)) (lit64 w' [i1, i2] 53) (by omega) (by decide) rfl (by rw [octC.putL, List.length_append, octC.flat_len, K.nums.len]; simp))
  unfold ctxL
  rw [← hL1, ← hL2]
  clear h1 h2 G1 G2 hL1 hL2 hC1 hC2 hn z1 z2
  go_enter Try.func15, Try.ntmps15
  go_upto_region 1 with fail
  try rw [e1]
  rw [← hW]
  clear hW e1
  go_upto_region 3 with fail
  clear k1 k2 hne
  refine with_act fun a0 ha0 => ?_
  have hl : CoT.length = a0.tmps.size := by rw [ha0]; rfl
  have k4 : a0.tmps[4]?.getD undef = .pointer (some ⟨w.heap.size, 0, none⟩) := by rw [ha0]; rfl
  have k5 : a0.tmps[5]?.getD undef = .pointer (some ⟨w.heap.size + 1, 0, none⟩) := by rw [ha0]; rfl
  refine wp_region_vals (by kernel_rfl) CoT (by kernel_rfl) (by kernel_rfl) hl (fun i => undef) (by rw [ha0]; rfl) (Gr W) (CoV w.heap.size (w.heap.size + 1) n C1 C2 L1 L2) (gr_drew _) (CoV.keep _ _ _ _ _ _ _) ⟨?_, ?_, ?_, ?_, ?_, ?_, ?_, ?_, ?_, trivial⟩ ?_
  · refine step_plain [] (by kernel_rfl) rfl fun us w' hG hV => ?_
    have o4 := (frame_old2 (us := us) (a := a0) (show (CoT[4]?).join = none from rfl)).trans k4
    generalize frame CoT a0 us = fr at *
    exact val_ok (v := .pointer (some ⟨w.heap.size, 0, none⟩)) (w' := w') (by go_simp) hG (Below.refl _ _) rfl
  · refine step_plain [0] (by kernel_rfl) rfl fun us w' hG hV => ?_
    have e0 : us 0 = .pointer (some ⟨w.heap.size, 0, none⟩) := hV 0 (by simp)
    have v0 := (frame_at2 (us := us) hl (show (CoT[18]?).join = some 0 from rfl)).trans e0
    have hc := CL1.out w' hG
    generalize frame CoT a0 us = fr at *
    exact loadp_ok 34 18 rfl w.heap.size 0 v0 C1 _ hc Try.underlying34 rfl U1.out hG rfl
  · refine step_plain [1] (by kernel_rfl) rfl fun us w' hG hV => ?_
    have e1 : us 1 = .agg C1 := hV 1 (by simp)
    have v1 := (frame_at2 (us := us) hl (show (CoT[19]?).join = some 1 from rfl)).trans e1
    generalize frame CoT a0 us = fr at *
    exact call_ok (f := 29) (args := #[.agg C1]) (by go_simp) ((AD1.out w').mono fun e w'' ⟨A, q1, q2, q3⟩ => ⟨_, q1, hG.below q3, q3, A, rfl, q2⟩)
  · refine step_plain [] (by kernel_rfl) rfl fun us w' hG hV => ?_
    have o5 := (frame_old2 (us := us) (a := a0) (show (CoT[5]?).join = none from rfl)).trans k5
    generalize frame CoT a0 us = fr at *
    exact val_ok (v := .pointer (some ⟨w.heap.size + 1, 0, none⟩)) (w' := w') (by go_simp) hG (Below.refl _ _) rfl
  · refine step_plain [3] (by kernel_rfl) rfl fun us w' hG hV => ?_
    have e3 : us 3 = .pointer (some ⟨w.heap.size + 1, 0, none⟩) := hV 3 (by simp)
    have v3 := (frame_at2 (us := us) hl (show (CoT[21]?).join = some 3 from rfl)).trans e3
    have hc := CL2.out w' hG
    generalize frame CoT a0 us = fr at *
    exact loadp_ok 34 21 rfl (w.heap.size + 1) 0 v3 C2 _ hc Try.underlying34 rfl U2.out hG rfl
  · refine step_plain [4] (by kernel_rfl) rfl fun us w' hG hV => ?_
    have e4 : us 4 = .agg C2 := hV 4 (by simp)
    have v4 := (frame_at2 (us := us) hl (show (CoT[22]?).join = some 4 from rfl)).trans e4
    generalize frame CoT a0 us = fr at *
    exact call_ok (f := 29) (args := #[.agg C2]) (by go_simp) ((AD2.out w').mono fun e w'' ⟨A, q1, q2, q3⟩ => ⟨_, q1, hG.below q3, q3, A, rfl, q2⟩)
  · refine step_plain [2, 5] (by kernel_rfl) rfl fun us w' hG hV => ?_
    have ex2 : ∃ A, us 2 = .slice A n 16 ∧ Key w' A n 16 L1 := hV 2 (by simp)
    have ex5 : ∃ A, us 5 = .slice A n 16 ∧ Key w' A n 16 L2 := hV 5 (by simp)
    obtain ⟨A2, e2, K2⟩ := ex2
    obtain ⟨A5, e5, K5⟩ := ex5
    have v2 := (frame_at2 (us := us) hl (show (CoT[20]?).join = some 2 from rfl)).trans e2
    have v5 := (frame_at2 (us := us) hl (show (CoT[23]?).join = some 5 from rfl)).trans e5
    generalize frame CoT a0 us = fr at *
    exact val_ok (v := .slice (some ⟨w'.heap.size, 0, none⟩) 2 2) (w' := w'.alloc (.cells #[.slice A2 n 16, .slice A5 n 16] 22)) (by go_simp) (hG.below (alloc_below _ _)) (alloc_below _ _) ⟨_, A2, A5, rfl, parts2 (K2.partAt (by omega)) (K5.partAt (by omega)) _⟩
  · refine step_plain [6] (by kernel_rfl) rfl fun us w' hG hV => ?_
    have ex6 : ∃ g A B, us 6 = .slice (some ⟨g, 0, none⟩) 2 2 ∧ Parts w' w'.heap.size (some ⟨g, 0, none⟩) [⟨A, n, 16, L1⟩, ⟨B, n, 16, L2⟩] := hV 6 (by simp)
    obtain ⟨g, A2, A5, e6, PP⟩ := ex6
    have v6 := (frame_at2 (us := us) hl (show (CoT[24]?).join = some 6 from rfl)).trans e6
    have CC := conC.concat_any (some ⟨g, 0, none⟩) 2 2 (n + n) _ w' PP (by decide) rfl (by simp [nsum]) (by omega) (by omega)
    have hcat : catL [⟨A2, n, 16, L1⟩, ⟨A5, n, 16, L2⟩] = L1 ++ L2 := by simp [catL]
    rw [hcat] at CC
    have hby := catL_byte PP.all
    rw [hcat] at hby
    generalize frame CoT a0 us = fr at *
    exact call_ok (f := 28) (args := #[.slice (some ⟨g, 0, none⟩) 2 2]) (by go_simp) (CC.mono fun e w'' ⟨A, c, q1, q2, q3, q4, q5⟩ => ⟨_, q1, hG.below q5, q5, A, c, rfl, own_key q4 ZL.out q2 q3 hby⟩)
  · refine step_plain [7] (by kernel_rfl) rfl fun us w' hG hV => ?_
    have ex7 : ∃ A c, us 7 = .slice A (n + n) c ∧ Key w' A (n + n) c (L1 ++ L2) := hV 7 (by simp)
    obtain ⟨A7, c7, e7, K7⟩ := ex7
    have v7 := (frame_at2 (us := us) hl (show (CoT[25]?).join = some 7 from rfl)).trans e7
    generalize frame CoT a0 us = fr at *
    exact val_ok (v := .slice A7 (n + n) c7) (w' := w') (by go_simp) hG (Below.refl _ _) ⟨A7, c7, rfl, K7⟩
  · intro us w3 hG hV
    have ex8 : ∃ A c, us 8 = .slice A (n + n) c ∧ Key w3 A (n + n) c (L1 ++ L2) := hV 8 (by decide)
    obtain ⟨A8, c8, e8, K8⟩ := ex8
    subst ha0
    simp only [frame, CoT, fill]
    rw [e8]
    have q1 := Q1.out w3 hG
    have q2 := Q2.out w3 hG
    have PA := Lib.hid (P1.out w3 A8 c8 K8)
    have HB3 := Lib.hid (BW.out.trans (hG.mono BW.out.size))
    clear hV hl k4 k5 hG K8 e8
    go_upto_region 5 with (first
      | (go_at_call 20; (with_reducible refine PA.out.mono ?_); rintro e w4 ⟨A4, c4, rfl, O4, K4, B4⟩
         have HB4 := Lib.hid ((HB3.out.trans (((alloc_below w3 (.cells #[.int .u64 p1, .int .u64 p2] 53)).trans (B4.mono (alloc_below w3 (.cells #[.int .u64 p1, .int .u64 p2] 53)).size)).mono HB3.out.size)))
         have PB := Lib.hid (P2.out w4 A4 c4 K4)))
    clear q1 q2 PA O4 K4 B4
    go_wp2_with (first
      | (go_at_call 20; (with_reducible refine PB.out.mono ?_); rintro e w5 ⟨A5, c5, rfl, O5, K5, B5⟩))
    go_ret2
    refine ⟨_, _, _, rfl, K5, ?_⟩
    exact HB4.out.trans (((alloc_below w4 (.cells #[.int .u64 i1, .int .u64 i2] 53)).trans (B5.mono (alloc_below w4 (.cells #[.int .u64 i1, .int .u64 i2] 53)).size)).mono HB4.out.size)
def ctxX (s1 s2 : Bool) (b1 b2 : List Int) (p1 p2 i1 i2 : Int) : List Int := if s1 = s2 then ctxL s1 b1 b2 p1 p2 i1 i2 else []
def ctxE (s1 s2 : Bool) : Int := if s1 = s2 then 0 else 1
theorem ctx_any (cs1 cs2 : Array Value) (s1 s2 : Bool) (b1 b2 : List Int) (p1 p2 i1 i2 : Int) (w : World) (h1 : EndC cs1 s1 b1 p1) (h2 : EndC cs2 s2 b2 p2) (l1 : 0 ≤ i1) (m1 : i1 ≤ 4294967295) (l2 : 0 ≤ i2) (m2 : i2 ≤ 4294967295) :
    Calls Try.prog 15 #[.agg cs1, .agg cs2, .int .u32 i1, .int .u32 i2] w (TwoRet w (ctxX s1 s2 b1 b2 p1 p2 i1 i2) (ctxE s1 s2)) := by
  unfold ctxX ctxE
  by_cases h : s1 = s2
  · subst h
    rw [if_pos rfl, if_pos rfl]
    exact ctx_same cs1 cs2 s1 b1 b2 p1 p2 i1 i2 w h1 h2 l1 m1 l2 m2
  · rw [if_neg h, if_neg h]
    exact ctx_unlike cs1 cs2 s1 s2 b1 b2 p1 p2 i1 i2 w h1 h2 h
end Go.Proofs.Ythbgjjfhgbkbdaa.kdC

/-
  Traffic keys: what Context of the document does; the walk of KdfContexts.
-/
namespace Go.Proofs.Ythbgjjfhgbkbdaa.kdC
open Go.ChangeShapes Go.WideShapes Go.ChangeAt Go.RowKit
open Go.Proofs.Ythbgjjfhgbkbdaa.memC Go.Proofs.Ythbgjjfhgbkbdaa.genC Go.Proofs.Ythbgjjfhgbkbdaa.aesM Go.Proofs.Ythbgjjfhgbkbdaa.aesC Go.Proofs.Ythbgjjfhgbkbdaa.butC Go.Proofs.Ythbgjjfhgbkbdaa.freeC Go.Proofs.Ythbgjjfhgbkbdaa.partsC
set_option linter.unusedVariables false
/-- append(own, numbers...) as an operation of a region that draws its order; the operands as they are -/
theorem append_Jo {P : Program} {Q : Exit → Act → World → Prop} {R : Value → World → Prop} {fr : Act} {o : Oper} {w : World} {kd : IntKind} (s x : Operand) (t : TypeId) (ho : o.op = .call { callee := .builtin .append, args := #[s, x], argTypes := #[t, t] })
    (e : TypeId) (i : TypeInfo) (z : Value) (bytes : Nat) (ht : P.underlying t = some (.slice e)) (hi : P.info? e = some i) (hz : i.zero = some z)
    (hsize : i.size = 1) (hby : i.bytes = bytes) (hzs : z.cells.size = 1) (base : Nat) (v : Value) (xs : List Int) (hs : fr.eval s = v) (hown : Own kd e w base v xs)
    (B : Nat) (A : Option Addr) (m c : Nat) (news : List Int) (hx : fr.eval x = .slice A m c) (hr : Nums kd w B A m news) (h63 : xs.length + m ≤ maxLen) (hbytes : (xs.length + m) * bytes ≤ 140737488355328) (hbase : base ≤ w.heap.size) (L : Nat) (hL : xs.length + m = L)
    (h : ∀ A' c' w', L ≤ c' → c' ≤ maxLen → Own kd e w' base (.slice A' L c') (xs ++ news) → Below base w w' → R (.slice A' L c') w') : o.wp P fr w (fun a' w' => ∃ v, a' = fr.put o.dst v ∧ R v w') Q := by
  obtain ⟨v', w', hrun, h2, h3⟩ := run_app (P := P) w t o.type e i z bytes ht hi hz hsize hby hzs base v xs hown B A m c news hr h63 hbytes hbase
  have e : (xs ++ news).length = L := by rw [List.length_append, hr.len]; exact hL
  obtain ⟨A', c', e2, g1, g2, N⟩ := h2.form
  rw [e] at e2 g1 N
  subst e2
  unfold Oper.wp execOp
  simp only [ho, resolve, invoke, builtin, Sem.run_bind, Sem.run_pure, Result.andThen_ok, List.map_toArray, List.map_cons, List.map_nil, hs, hx, hrun]
  exact ⟨_, rfl, h A' c' w' g1 g2 h2 (grown_below h3 hbase fun g hg => (hown.blk g hg).1)⟩
theorem eval_tmp {fr : Act} {s : Nat} {v : Value} (h : fr.tmps[s]?.getD undef = v) : fr.eval (.tmp s) = v := by simpa only [Act.eval, Array.getD_eq_getD_getElem?] using h
/-- what holds while the two addresses are put one behind the other -/
structure DJ (W : World) (g1 g2 n N : Nat) (L1 L2 : List Int) (m : Nat → Bool) (us : Nat → Value) (w : World) : Prop where
  bel : Below W.heap.size W w
  v0 : m 0 = true → us 0 = .pointer (some ⟨g1, 0, none⟩)
  v1 : m 1 = true → us 1 = .pointer (some ⟨g1, 1, none⟩)
  v2 : m 2 = true → us 2 = .int .i64 n
  v3 : m 3 = true → us 3 = .slice (some ⟨g1, 1, none⟩) n 16
  v4 : m 4 = true → m 9 = false → ∃ A c, us 4 = .slice A n c ∧ Own .u8 5 w W.heap.size (.slice A n c) L1
  v5 : m 5 = true → us 5 = .pointer (some ⟨g2, 0, none⟩)
  v6 : m 6 = true → us 6 = .pointer (some ⟨g2, 1, none⟩)
  v7 : m 7 = true → us 7 = .int .i64 n
  v8 : m 8 = true → us 8 = .slice (some ⟨g2, 1, none⟩) n 16
  v9 : m 9 = true → ∃ A c, us 9 = .slice A N c ∧ N ≤ c ∧ c ≤ maxLen ∧ Own .u8 5 w W.heap.size (.slice A N c) (L1 ++ L2)
  v10 : m 10 = true → ∃ A c, us 10 = .slice A N c ∧ N ≤ c ∧ c ≤ maxLen ∧ Own .u8 5 w W.heap.size (.slice A N c) (L1 ++ L2)
  o10 : m 10 = true → m 9 = true
section
variable {W w w' : World} {g1 g2 n N : Nat} {L1 L2 : List Int} {m : Nat → Bool} {us : Nat → Value}
theorem DJ.s0 (h : DJ W g1 g2 n N L1 L2 m us w) : DJ W g1 g2 n N L1 L2 (upd m 0 true) (upd us 0 (.pointer (some ⟨g1, 0, none⟩))) w :=
  ⟨h.bel, fun _ => rfl, h.v1, h.v2, h.v3, h.v4, h.v5, h.v6, h.v7, h.v8, h.v9, h.v10, h.o10⟩
theorem DJ.s1 (h : DJ W g1 g2 n N L1 L2 m us w) : DJ W g1 g2 n N L1 L2 (upd m 1 true) (upd us 1 (.pointer (some ⟨g1, 1, none⟩))) w :=
  ⟨h.bel, h.v0, fun _ => rfl, h.v2, h.v3, h.v4, h.v5, h.v6, h.v7, h.v8, h.v9, h.v10, h.o10⟩
theorem DJ.s2 (h : DJ W g1 g2 n N L1 L2 m us w) : DJ W g1 g2 n N L1 L2 (upd m 2 true) (upd us 2 (.int .i64 n)) w :=
  ⟨h.bel, h.v0, h.v1, fun _ => rfl, h.v3, h.v4, h.v5, h.v6, h.v7, h.v8, h.v9, h.v10, h.o10⟩
theorem DJ.s3 (h : DJ W g1 g2 n N L1 L2 m us w) : DJ W g1 g2 n N L1 L2 (upd m 3 true) (upd us 3 (.slice (some ⟨g1, 1, none⟩) n 16)) w :=
  ⟨h.bel, h.v0, h.v1, h.v2, fun _ => rfl, h.v4, h.v5, h.v6, h.v7, h.v8, h.v9, h.v10, h.o10⟩
theorem DJ.s5 (h : DJ W g1 g2 n N L1 L2 m us w) : DJ W g1 g2 n N L1 L2 (upd m 5 true) (upd us 5 (.pointer (some ⟨g2, 0, none⟩))) w :=
  ⟨h.bel, h.v0, h.v1, h.v2, h.v3, h.v4, fun _ => rfl, h.v6, h.v7, h.v8, h.v9, h.v10, h.o10⟩
theorem DJ.s6 (h : DJ W g1 g2 n N L1 L2 m us w) : DJ W g1 g2 n N L1 L2 (upd m 6 true) (upd us 6 (.pointer (some ⟨g2, 1, none⟩))) w :=
  ⟨h.bel, h.v0, h.v1, h.v2, h.v3, h.v4, h.v5, fun _ => rfl, h.v7, h.v8, h.v9, h.v10, h.o10⟩
theorem DJ.s7 (h : DJ W g1 g2 n N L1 L2 m us w) : DJ W g1 g2 n N L1 L2 (upd m 7 true) (upd us 7 (.int .i64 n)) w :=
  ⟨h.bel, h.v0, h.v1, h.v2, h.v3, h.v4, h.v5, h.v6, fun _ => rfl, h.v8, h.v9, h.v10, h.o10⟩
theorem DJ.s8 (h : DJ W g1 g2 n N L1 L2 m us w) : DJ W g1 g2 n N L1 L2 (upd m 8 true) (upd us 8 (.slice (some ⟨g2, 1, none⟩) n 16)) w :=
  ⟨h.bel, h.v0, h.v1, h.v2, h.v3, h.v4, h.v5, h.v6, h.v7, fun _ => rfl, h.v9, h.v10, h.o10⟩
theorem DJ.s4 (h : DJ W g1 g2 n N L1 L2 m us w) (A : Option Addr) (c : Nat) (O : Own .u8 5 w' w.heap.size (.slice A n c) L1) (hb : Below w.heap.size w w') :
    DJ W g1 g2 n N L1 L2 (upd m 4 true) (upd us 4 (.slice A n c)) w' := by
  refine ⟨h.bel.trans (hb.mono h.bel.size), h.v0, h.v1, h.v2, h.v3, fun _ _ => ⟨A, c, rfl, O.less h.bel.size⟩, h.v5, h.v6, h.v7, h.v8, fun e => ?_, fun e => ?_, h.o10⟩
  · obtain ⟨A', c', f1, f2, f3, f4⟩ := h.v9 e
    exact ⟨A', c', f1, f2, f3, f4.below hb⟩
  · obtain ⟨A', c', f1, f2, f3, f4⟩ := h.v10 e
    exact ⟨A', c', f1, f2, f3, f4.below hb⟩
theorem DJ.s9 (h : DJ W g1 g2 n N L1 L2 m us w) (hm : m 9 = false) (A : Option Addr) (c : Nat) (q1 : N ≤ c) (q2 : c ≤ maxLen) (O : Own .u8 5 w' W.heap.size (.slice A N c) (L1 ++ L2)) (hb : Below W.heap.size w w') :
    DJ W g1 g2 n N L1 L2 (upd m 9 true) (upd us 9 (.slice A N c)) w' :=
  ⟨h.bel.trans hb, h.v0, h.v1, h.v2, h.v3, fun _ e => (by cases e), h.v5, h.v6, h.v7, h.v8, fun _ => ⟨A, c, rfl, q1, q2, O⟩, fun e => absurd ((h.o10 e).symm.trans hm) (by decide), fun _ => rfl⟩
theorem DJ.s10 (h : DJ W g1 g2 n N L1 L2 m us w) (hm : m 9 = true) (A : Option Addr) (c : Nat) (q1 : N ≤ c) (q2 : c ≤ maxLen) (O : Own .u8 5 w W.heap.size (.slice A N c) (L1 ++ L2)) :
    DJ W g1 g2 n N L1 L2 (upd m 10 true) (upd us 10 (.slice A N c)) w :=
  ⟨h.bel, h.v0, h.v1, h.v2, h.v3, h.v4, h.v5, h.v6, h.v7, h.v8, h.v9, fun _ => ⟨A, c, rfl, q1, q2, O⟩, fun _ => hm⟩
end
def DoT : List (Option Nat) := [none, none, none, none, none, none, none, none, none, none, none, some 10, none, none, none, none, none, none, none, none, none, none, some 0, some 1, some 2, some 3, some 4, some 5, some 6, some 7, some 8, some 9, none, none, none, none, none, none, none, none, none, none, none, none, none, none, none, none]
theorem rctx_unlike (cs1 cs2 : Array Value) (s1 s2 : Bool) (b1 b2 : List Int) (p1 p2 i1 i2 : Int) (w : World) (h1 : EndC cs1 s1 b1 p1) (h2 : EndC cs2 s2 b2 p2) (hs : s1 ≠ s2) :
    Calls Try.prog 16 #[.agg cs1, .agg cs2, .int .u32 i1, .int .u32 i2] w (TwoRet w [] 1) := by
  have e1 : (w.alloc (.cells cs1 37)).heap.size = w.heap.size + 1 := alloc_size _ _
  obtain ⟨W, hW⟩ : ∃ W, W = (w.alloc (.cells cs1 37)).alloc (.cells cs2 37) := ⟨_, rfl⟩
  have G1 : W.heap[w.heap.size]? = some (.cells cs1 37 (0, 0)) := by rw [hW, Below.block (alloc_below _ _) _ (by rw [e1]; omega)]; exact heap_alloc_new w _
  have G2 : W.heap[w.heap.size + 1]? = some (.cells cs2 37 (0, 0)) := by rw [hW, ← e1]; exact heap_alloc_new _ _
  have BW := Lib.hid (show Below w.heap.size w W by rw [hW]; exact ((Below.refl _ _).alloc (Nat.le_refl _) _).alloc (by simp) _)
  have k1 : W.cell? ⟨w.heap.size, 0, none⟩ = some (.bool s1) := by rw [cell_of_row W _ 0 _ _ (0, 0) G1]; exact h1.six
  have k2 : W.cell? ⟨w.heap.size + 1, 0, none⟩ = some (.bool s2) := by rw [cell_of_row W _ 0 _ _ (0, 0) G2]; exact h2.six
  clear h1 h2 G1 G2
  go_enter Try.func16, Try.ntmps16
  go_upto_region 1 with fail
  try rw [e1]
  rw [← hW]
  clear hW
  cases s1 <;> cases s2
  all_goals try (exfalso; exact hs rfl)
  all_goals
    clear hs
    go_wp2_with fail
    go_ret2
    exact ⟨none, 0, 0, rfl, key_nil _, BW.out⟩
set_option maxRecDepth 100000 in
set_option maxHeartbeats 1000000 in
theorem rctx_four (cs1 cs2 : Array Value) (b1 b2 : List Int) (p1 p2 i1 i2 : Int) (w : World) (h1 : EndC cs1 false b1 p1) (h2 : EndC cs2 false b2 p2) (l1 : 0 ≤ i1) (m1 : i1 ≤ 4294967295) (l2 : 0 ≤ i2) (m2 : i2 ≤ 4294967295) :
    Calls Try.prog 16 #[.agg cs1, .agg cs2, .int .u32 i1, .int .u32 i2] w (TwoRet w (ctxL false b1 b2 p1 p2 i1 i2) 0) := by
  obtain ⟨i0, hi0, hz0, hz1, hz2⟩ := info_parts byte_inf
  have T1 := Lib.hid hi0; have T2 := Lib.hid hz0; have T3 := Lib.hid hz1; have T4 := Lib.hid hz2
  have e1 : (w.alloc (.cells cs1 37)).heap.size = w.heap.size + 1 := alloc_size _ _
  obtain ⟨W, hW⟩ : ∃ W, W = (w.alloc (.cells cs1 37)).alloc (.cells cs2 37) := ⟨_, rfl⟩
  have G1 : W.heap[w.heap.size]? = some (.cells cs1 37 (0, 0)) := by rw [hW, Below.block (alloc_below _ _) _ (by rw [e1]; omega)]; exact heap_alloc_new w _
  have G2 : W.heap[w.heap.size + 1]? = some (.cells cs2 37 (0, 0)) := by rw [hW, ← e1]; exact heap_alloc_new _ _
  have BW := Lib.hid (show Below w.heap.size w W by rw [hW]; exact ((Below.refl _ _).alloc (Nat.le_refl _) _).alloc (by simp) _)
  have k1 : W.cell? ⟨w.heap.size, 0, none⟩ = some (.bool false) := by rw [cell_of_row W _ 0 _ _ (0, 0) G1]; exact h1.six
  have k2 : W.cell? ⟨w.heap.size + 1, 0, none⟩ = some (.bool false) := by rw [cell_of_row W _ 0 _ _ (0, 0) G2]; exact h2.six
  obtain ⟨L1, hL1⟩ : ∃ L, L = adrL false b1 := ⟨_, rfl⟩
  obtain ⟨L2, hL2⟩ : ∃ L, L = adrL false b2 := ⟨_, rfl⟩
  have z1 : L1.length = 4 := by rw [hL1]; exact adrL_len h1.len
  have z2 : L2.length = 4 := by rw [hL2]; exact adrL_len h2.len
  have hby : ∀ x ∈ L1 ++ L2, Byte x := by
    rw [hL1, hL2]
    intro x hx
    rcases List.mem_append.1 hx with h | h
    · exact h1.byte x (List.mem_of_mem_take h)
    · exact h2.byte x (List.mem_of_mem_take h)
  have NM1 : Nums .u8 W W.heap.size (some ⟨w.heap.size, 1, none⟩) 4 L1 := by
    rw [hL1]
    refine ⟨by rw [← hL1]; exact z1, fun _ => ⟨_, 1, rfl, lt_of_row G1, fun i hi => ?_⟩⟩
    rw [cell_of_row W _ (1 + i) _ _ (0, 0) G1, h1.at_ i (by omega)]
    simp [adrL, adrN, List.getD_eq_getElem?_getD, hi]
  have NM2 : Nums .u8 W W.heap.size (some ⟨w.heap.size + 1, 1, none⟩) 4 L2 := by
    rw [hL2]
    refine ⟨by rw [← hL2]; exact z2, fun _ => ⟨_, 1, rfl, lt_of_row G2, fun i hi => ?_⟩⟩
    rw [cell_of_row W _ (1 + i) _ _ (0, 0) G2, h2.at_ i (by omega)]
    simp [adrL, adrN, List.getD_eq_getElem?_getD, hi]
  have HN1 := Lib.hid NM1
  have HN2 := Lib.hid NM2
  have Q1 := Lib.hid (fun (w' : World) (hG : Gr W w') => (show w'.cell? ⟨w.heap.size, 17, none⟩ = some (.int .u16 p1) by rw [cell_of_row w' _ 17 _ _ (0, 0) (hG.row G1)]; exact h1.port))
  have Q2 := Lib.hid (fun (w' : World) (hG : Gr W w') => (show w'.cell? ⟨w.heap.size + 1, 17, none⟩ = some (.int .u16 p2) by rw [cell_of_row w' _ 17 _ _ (0, 0) (hG.row G2)]; exact h2.port))
  have a1 := h1.p0
  have a2 := h1.p1
  have a3 := h2.p0
  have a4 := h2.p1
  have ZL := Lib.hid (show (L1 ++ L2).length = 8 by rw [List.length_append, z1, z2])
  have Z1 := Lib.hid z1
  have HBY := Lib.hid hby
  have P1 := Lib.hid (fun (w' : World) (A : Option Addr) (c : Nat) (K : Key w' A 8 c (L1 ++ L2)) => rput_key (P := some ⟨w'.heap.size, 0, none⟩) (m := 2) (c2 := 2) (ns := [p1, p2]) (w := w'.alloc (.cells #[.int .u64 p1, .int .u64 p2] 53)) 2 2 12 (octC.putL (L1 ++ L2) 2 [p1, p2]) rfl (by decide) (K.below (alloc_below _ _)) (lit64 w' [p1, p2] 53) (by omega) (by decide) rfl (by unfold octC.putL; rw [List.length_append, octC.flat_len, ZL.out]; rfl))
  have P2 := Lib.hid (fun (w' : World) (A : Option Addr) (c : Nat) (K : Key w' A 12 c (octC.putL (L1 ++ L2) 2 [p1, p2])) => rput_key (P := some ⟨w'.heap.size, 0, none⟩) (m := 2) (c2 := 2) (ns := [i1, i2]) (w := w'.alloc (.cells #[.int .u64 i1, .int .u64 i2] 53)) 4 4 20 (octC.putL (octC.putL (L1 ++ L2) 2 [p1, p2]) 4 [i1, i2]) rfl (by decide) (K.below (alloc_below _ _)) (lit64 w' [i1, i2] 53) (by omega) (by decide) rfl (by rw [octC.putL, List.length_append, octC.flat_len, K.nums.len]; rfl))
  unfold ctxL
  rw [← hL1, ← hL2]
  clear h1 h2 G1 G2 hL1 hL2 z1 z2 hby NM1 NM2 hi0 hz0 hz1 hz2
  go_enter Try.func16, Try.ntmps16
  go_upto_region 1 with fail
  try rw [e1]
  rw [← hW]
  clear hW e1
  go_upto_region 6 with fail
  clear k1 k2
  have J0 : DJ W w.heap.size (w.heap.size + 1) 4 8 L1 L2 (fun _ => false) (fun _ => undef) W.drew := by
    refine ⟨(Below.refl _ _).drew, ?_, ?_, ?_, ?_, ?_, ?_, ?_, ?_, ?_, ?_, ?_, ?_⟩
    all_goals (intro h; cases h)
  have HJ0 := Lib.hid J0
  clear J0
  refine with_act fun a0 ha0 => ?_
  have hl : DoT.length = a0.tmps.size := by rw [ha0]; rfl
  have k4 : a0.tmps[4]?.getD undef = .pointer (some ⟨w.heap.size, 0, none⟩) := by rw [ha0]; rfl
  have k5 : a0.tmps[5]?.getD undef = .pointer (some ⟨w.heap.size + 1, 0, none⟩) := by rw [ha0]; rfl
  have k10 : a0.tmps[10]?.getD undef = .int .i64 4 := by rw [ha0]; rfl
  refine wp_region_J (by kernel_rfl) DoT (by kernel_rfl) (by kernel_rfl) hl (fun _ => undef) (by rw [ha0]; rfl) (DJ W w.heap.size (w.heap.size + 1) 4 8 L1 L2) HJ0.out ⟨?_, ?_, ?_, ?_, ?_, ?_, ?_, ?_, ?_, ?_, ?_, trivial⟩ ?_
  · refine stepJ [] (by kernel_rfl) rfl fun m us w' hJ hmi hd => ?_
    have o4 := (frame_old2 (us := us) (a := a0) (show (DoT[4]?).join = none from rfl)).trans k4
    generalize frame DoT a0 us = fr at *
    exact val_J (v := .pointer (some ⟨w.heap.size, 0, none⟩)) (w' := w') (by go_simp) hJ.s0
  · refine stepJ [0] (by kernel_rfl) rfl fun m us w' hJ hmi hd => ?_
    have v0 := (frame_at2 (us := us) hl (show (DoT[22]?).join = some 0 from rfl)).trans (hJ.v0 (hd 0 (by simp)))
    generalize frame DoT a0 us = fr at *
    exact val_J (v := .pointer (some ⟨w.heap.size, 1, none⟩)) (w' := w') (by go_simp) hJ.s1
  · refine stepJ [] (by kernel_rfl) rfl fun m us w' hJ hmi hd => ?_
    have o10 := (frame_old2 (us := us) (a := a0) (show (DoT[10]?).join = none from rfl)).trans k10
    generalize frame DoT a0 us = fr at *
    exact val_J (v := .int .i64 4) (w' := w') (by go_simp) hJ.s2
  · refine stepJ [1, 2] (by kernel_rfl) rfl fun m us w' hJ hmi hd => ?_
    have v1 := (frame_at2 (us := us) hl (show (DoT[23]?).join = some 1 from rfl)).trans (hJ.v1 (hd 1 (by simp)))
    have v2 := (frame_at2 (us := us) hl (show (DoT[24]?).join = some 2 from rfl)).trans (hJ.v2 (hd 2 (by simp)))
    generalize frame DoT a0 us = fr at *
    exact val_J (v := .slice (some ⟨w.heap.size, 1, none⟩) 4 16) (w' := w') (by go_simp) hJ.s3
  · refine stepJ [3] (by kernel_rfl) rfl fun m us w' hJ hmi hd => ?_
    have v3 := (frame_at2 (us := us) hl (show (DoT[25]?).join = some 3 from rfl)).trans (hJ.v3 (hd 3 (by simp)))
    generalize frame DoT a0 us = fr at *
    exact append_Jo (.const (.slice none 0 0)) (.tmp 25) 22 rfl 5 i0 _ 1 Try.underlying22 T1.out T2.out T3.out T4.out rfl w'.heap.size _ [] rfl (Own.nil _ _) W.heap.size _ 4 16 L1 (eval_tmp v3) (HN1.out.below hJ.bel) (by decide) (by decide) (Nat.le_refl _) 4 rfl fun A4 c4 w4 g3 g4 O4 B4 => hJ.s4 A4 c4 O4 B4
  · refine stepJ [] (by kernel_rfl) rfl fun m us w' hJ hmi hd => ?_
    have o5 := (frame_old2 (us := us) (a := a0) (show (DoT[5]?).join = none from rfl)).trans k5
    generalize frame DoT a0 us = fr at *
    exact val_J (v := .pointer (some ⟨w.heap.size + 1, 0, none⟩)) (w' := w') (by go_simp) hJ.s5
  · refine stepJ [5] (by kernel_rfl) rfl fun m us w' hJ hmi hd => ?_
    have v5 := (frame_at2 (us := us) hl (show (DoT[27]?).join = some 5 from rfl)).trans (hJ.v5 (hd 5 (by simp)))
    generalize frame DoT a0 us = fr at *
    exact val_J (v := .pointer (some ⟨w.heap.size + 1, 1, none⟩)) (w' := w') (by go_simp) hJ.s6
  · refine stepJ [] (by kernel_rfl) rfl fun m us w' hJ hmi hd => ?_
    have o10 := (frame_old2 (us := us) (a := a0) (show (DoT[10]?).join = none from rfl)).trans k10
    generalize frame DoT a0 us = fr at *
    exact val_J (v := .int .i64 4) (w' := w') (by go_simp) hJ.s7
  · refine stepJ [6, 7] (by kernel_rfl) rfl fun m us w' hJ hmi hd => ?_
    have v6 := (frame_at2 (us := us) hl (show (DoT[28]?).join = some 6 from rfl)).trans (hJ.v6 (hd 6 (by simp)))
    have v7 := (frame_at2 (us := us) hl (show (DoT[29]?).join = some 7 from rfl)).trans (hJ.v7 (hd 7 (by simp)))
    generalize frame DoT a0 us = fr at *
    exact val_J (v := .slice (some ⟨w.heap.size + 1, 1, none⟩) 4 16) (w' := w') (by go_simp) hJ.s8
  · refine stepJ [4, 8] (by kernel_rfl) rfl fun m us w' hJ hmi hd => ?_
    have v8 := (frame_at2 (us := us) hl (show (DoT[30]?).join = some 8 from rfl)).trans (hJ.v8 (hd 8 (by simp)))
    obtain ⟨A4, c4, e4, O4⟩ := hJ.v4 (hd 4 (by simp)) hmi
    have v4 := (frame_at2 (us := us) hl (show (DoT[26]?).join = some 4 from rfl)).trans e4
    generalize frame DoT a0 us = fr at *
    exact append_Jo (.tmp 26) (.tmp 30) 22 rfl 5 i0 _ 1 Try.underlying22 T1.out T2.out T3.out T4.out rfl W.heap.size _ L1 (eval_tmp v4) O4 W.heap.size _ 4 16 L2 (eval_tmp v8) (HN2.out.below hJ.bel) (by rw [Z1.out]; decide) (by rw [Z1.out]; decide) hJ.bel.size 8 (by rw [Z1.out]) fun A5 c5 w5 g3 g4 O5 B5 => hJ.s9 hmi A5 c5 g3 g4 O5 B5
  · refine stepJ [9] (by kernel_rfl) rfl fun m us w' hJ hmi hd => ?_
    obtain ⟨A9, c9, e9, q1, q2, O9⟩ := hJ.v9 (hd 9 (by simp))
    have v9 := (frame_at2 (us := us) hl (show (DoT[31]?).join = some 9 from rfl)).trans e9
    generalize frame DoT a0 us = fr at *
    exact val_J (v := .slice A9 8 c9) (w' := w') (by go_simp) (hJ.s10 (hd 9 (by simp)) A9 c9 q1 q2 O9)
  · intro m us w3 hmm hJ
    obtain ⟨A8, c8, e8, r1, r2, O8⟩ := hJ.v10 (hmm 10 (by decide))
    have hG : Gr W w3 := hJ.bel
    have K8 := own_key O8 ZL.out r1 r2 HBY.out
    subst ha0
    simp only [frame, DoT, fill]
    rw [e8]
    have q1 := Q1.out w3 hG
    have q2 := Q2.out w3 hG
    have PA := Lib.hid (P1.out w3 A8 c8 K8)
    have HB3 := Lib.hid (BW.out.trans (hG.mono BW.out.size))
    clear hJ hmm hl k4 k5 k10 hG K8 e8 O8
    go_upto_region 8 with (first
      | (go_at_call 24; (with_reducible refine PA.out.mono ?_); rintro e w4 ⟨A4, c4, rfl, O4, K4, B4⟩
         have HB4 := Lib.hid ((HB3.out.trans (((alloc_below w3 (.cells #[.int .u64 p1, .int .u64 p2] 53)).trans (B4.mono (alloc_below w3 (.cells #[.int .u64 p1, .int .u64 p2] 53)).size)).mono HB3.out.size)))
         have PB := Lib.hid (P2.out w4 A4 c4 K4)))
    clear q1 q2 PA O4 K4 B4
    go_wp2_with (first
      | (go_at_call 24; (with_reducible refine PB.out.mono ?_); rintro e w5 ⟨A5, c5, rfl, O5, K5, B5⟩))
    go_ret2
    refine ⟨_, _, _, rfl, K5, ?_⟩
    exact HB4.out.trans (((alloc_below w4 (.cells #[.int .u64 i1, .int .u64 i2] 53)).trans (B5.mono (alloc_below w4 (.cells #[.int .u64 i1, .int .u64 i2] 53)).size)).mono HB4.out.size)
set_option maxRecDepth 100000 in
set_option maxHeartbeats 1000000 in
theorem rctx_six (cs1 cs2 : Array Value) (b1 b2 : List Int) (p1 p2 i1 i2 : Int) (w : World) (h1 : EndC cs1 true b1 p1) (h2 : EndC cs2 true b2 p2) (l1 : 0 ≤ i1) (m1 : i1 ≤ 4294967295) (l2 : 0 ≤ i2) (m2 : i2 ≤ 4294967295) :
    Calls Try.prog 16 #[.agg cs1, .agg cs2, .int .u32 i1, .int .u32 i2] w (TwoRet w (ctxL true b1 b2 p1 p2 i1 i2) 0) := by
  obtain ⟨i0, hi0, hz0, hz1, hz2⟩ := info_parts byte_inf
  have T1 := Lib.hid hi0; have T2 := Lib.hid hz0; have T3 := Lib.hid hz1; have T4 := Lib.hid hz2
  have e1 : (w.alloc (.cells cs1 37)).heap.size = w.heap.size + 1 := alloc_size _ _
  obtain ⟨W, hW⟩ : ∃ W, W = (w.alloc (.cells cs1 37)).alloc (.cells cs2 37) := ⟨_, rfl⟩
  have G1 : W.heap[w.heap.size]? = some (.cells cs1 37 (0, 0)) := by rw [hW, Below.block (alloc_below _ _) _ (by rw [e1]; omega)]; exact heap_alloc_new w _
  have G2 : W.heap[w.heap.size + 1]? = some (.cells cs2 37 (0, 0)) := by rw [hW, ← e1]; exact heap_alloc_new _ _
  have BW := Lib.hid (show Below w.heap.size w W by rw [hW]; exact ((Below.refl _ _).alloc (Nat.le_refl _) _).alloc (by simp) _)
  have k1 : W.cell? ⟨w.heap.size, 0, none⟩ = some (.bool true) := by rw [cell_of_row W _ 0 _ _ (0, 0) G1]; exact h1.six
  have k2 : W.cell? ⟨w.heap.size + 1, 0, none⟩ = some (.bool true) := by rw [cell_of_row W _ 0 _ _ (0, 0) G2]; exact h2.six
  obtain ⟨L1, hL1⟩ : ∃ L, L = adrL true b1 := ⟨_, rfl⟩
  obtain ⟨L2, hL2⟩ : ∃ L, L = adrL true b2 := ⟨_, rfl⟩
  have z1 : L1.length = 16 := by rw [hL1]; exact adrL_len h1.len
  have z2 : L2.length = 16 := by rw [hL2]; exact adrL_len h2.len
  have hby : ∀ x ∈ L1 ++ L2, Byte x := by
    rw [hL1, hL2]
    intro x hx
    rcases List.mem_append.1 hx with h | h
    · exact h1.byte x (List.mem_of_mem_take h)
    · exact h2.byte x (List.mem_of_mem_take h)
  have NM1 : Nums .u8 W W.heap.size (some ⟨w.heap.size, 1, none⟩) 16 L1 := by
    rw [hL1]
    refine ⟨by rw [← hL1]; exact z1, fun _ => ⟨_, 1, rfl, lt_of_row G1, fun i hi => ?_⟩⟩
    rw [cell_of_row W _ (1 + i) _ _ (0, 0) G1, h1.at_ i (by omega)]
    simp [adrL, adrN, List.getD_eq_getElem?_getD, hi]
  have NM2 : Nums .u8 W W.heap.size (some ⟨w.heap.size + 1, 1, none⟩) 16 L2 := by
    rw [hL2]
    refine ⟨by rw [← hL2]; exact z2, fun _ => ⟨_, 1, rfl, lt_of_row G2, fun i hi => ?_⟩⟩
    rw [cell_of_row W _ (1 + i) _ _ (0, 0) G2, h2.at_ i (by omega)]
    simp [adrL, adrN, List.getD_eq_getElem?_getD, hi]
  have HN1 := Lib.hid NM1
  have HN2 := Lib.hid NM2
  have Q1 := Lib.hid (fun (w' : World) (hG : Gr W w') => (show w'.cell? ⟨w.heap.size, 17, none⟩ = some (.int .u16 p1) by rw [cell_of_row w' _ 17 _ _ (0, 0) (hG.row G1)]; exact h1.port))
  have Q2 := Lib.hid (fun (w' : World) (hG : Gr W w') => (show w'.cell? ⟨w.heap.size + 1, 17, none⟩ = some (.int .u16 p2) by rw [cell_of_row w' _ 17 _ _ (0, 0) (hG.row G2)]; exact h2.port))
  have a1 := h1.p0
  have a2 := h1.p1
  have a3 := h2.p0
  have a4 := h2.p1
  have ZL := Lib.hid (show (L1 ++ L2).length = 32 by rw [List.length_append, z1, z2])
  have Z1 := Lib.hid z1
  have HBY := Lib.hid hby
  have P1 := Lib.hid (fun (w' : World) (A : Option Addr) (c : Nat) (K : Key w' A 32 c (L1 ++ L2)) => rput_key (P := some ⟨w'.heap.size, 0, none⟩) (m := 2) (c2 := 2) (ns := [p1, p2]) (w := w'.alloc (.cells #[.int .u64 p1, .int .u64 p2] 53)) 2 2 36 (octC.putL (L1 ++ L2) 2 [p1, p2]) rfl (by decide) (K.below (alloc_below _ _)) (lit64 w' [p1, p2] 53) (by omega) (by decide) rfl (by unfold octC.putL; rw [List.length_append, octC.flat_len, ZL.out]; rfl))
  have P2 := Lib.hid (fun (w' : World) (A : Option Addr) (c : Nat) (K : Key w' A 36 c (octC.putL (L1 ++ L2) 2 [p1, p2])) => rput_key (P := some ⟨w'.heap.size, 0, none⟩) (m := 2) (c2 := 2) (ns := [i1, i2]) (w := w'.alloc (.cells #[.int .u64 i1, .int .u64 i2] 53)) 4 4 44 (octC.putL (octC.putL (L1 ++ L2) 2 [p1, p2]) 4 [i1, i2]) rfl (by decide) (K.below (alloc_below _ _)) (lit64 w' [i1, i2] 53) (by omega) (by decide) rfl (by rw [octC.putL, List.length_append, octC.flat_len, K.nums.len]; rfl))
  unfold ctxL
  rw [← hL1, ← hL2]
  clear h1 h2 G1 G2 hL1 hL2 z1 z2 hby NM1 NM2 hi0 hz0 hz1 hz2
  go_enter Try.func16, Try.ntmps16
  go_upto_region 1 with fail
  try rw [e1]
  rw [← hW]
  clear hW e1
  go_upto_region 6 with fail
  clear k1 k2
  have J0 : DJ W w.heap.size (w.heap.size + 1) 16 32 L1 L2 (fun _ => false) (fun _ => undef) W.drew := by
    refine ⟨(Below.refl _ _).drew, ?_, ?_, ?_, ?_, ?_, ?_, ?_, ?_, ?_, ?_, ?_, ?_⟩
    all_goals (intro h; cases h)
  have HJ0 := Lib.hid J0
  clear J0
  refine with_act fun a0 ha0 => ?_
  have hl : DoT.length = a0.tmps.size := by rw [ha0]; rfl
  have k4 : a0.tmps[4]?.getD undef = .pointer (some ⟨w.heap.size, 0, none⟩) := by rw [ha0]; rfl
  have k5 : a0.tmps[5]?.getD undef = .pointer (some ⟨w.heap.size + 1, 0, none⟩) := by rw [ha0]; rfl
  have k10 : a0.tmps[10]?.getD undef = .int .i64 16 := by rw [ha0]; rfl
  refine wp_region_J (by kernel_rfl) DoT (by kernel_rfl) (by kernel_rfl) hl (fun _ => undef) (by rw [ha0]; rfl) (DJ W w.heap.size (w.heap.size + 1) 16 32 L1 L2) HJ0.out ⟨?_, ?_, ?_, ?_, ?_, ?_, ?_, ?_, ?_, ?_, ?_, trivial⟩ ?_
  · refine stepJ [] (by kernel_rfl) rfl fun m us w' hJ hmi hd => ?_
    have o4 := (frame_old2 (us := us) (a := a0) (show (DoT[4]?).join = none from rfl)).trans k4
    generalize frame DoT a0 us = fr at *
    exact val_J (v := .pointer (some ⟨w.heap.size, 0, none⟩)) (w' := w') (by go_simp) hJ.s0
  · refine stepJ [0] (by kernel_rfl) rfl fun m us w' hJ hmi hd => ?_
    have v0 := (frame_at2 (us := us) hl (show (DoT[22]?).join = some 0 from rfl)).trans (hJ.v0 (hd 0 (by simp)))
    generalize frame DoT a0 us = fr at *
    exact val_J (v := .pointer (some ⟨w.heap.size, 1, none⟩)) (w' := w') (by go_simp) hJ.s1
  · refine stepJ [] (by kernel_rfl) rfl fun m us w' hJ hmi hd => ?_
    have o10 := (frame_old2 (us := us) (a := a0) (show (DoT[10]?).join = none from rfl)).trans k10
    generalize frame DoT a0 us = fr at *
    exact val_J (v := .int .i64 16) (w' := w') (by go_simp) hJ.s2
  · refine stepJ [1, 2] (by kernel_rfl) rfl fun m us w' hJ hmi hd => ?_
    have v1 := (frame_at2 (us := us) hl (show (DoT[23]?).join = some 1 from rfl)).trans (hJ.v1 (hd 1 (by simp)))
    have v2 := (frame_at2 (us := us) hl (show (DoT[24]?).join = some 2 from rfl)).trans (hJ.v2 (hd 2 (by simp)))
    generalize frame DoT a0 us = fr at *
    exact val_J (v := .slice (some ⟨w.heap.size, 1, none⟩) 16 16) (w' := w') (by go_simp) hJ.s3
  · refine stepJ [3] (by kernel_rfl) rfl fun m us w' hJ hmi hd => ?_
    have v3 := (frame_at2 (us := us) hl (show (DoT[25]?).join = some 3 from rfl)).trans (hJ.v3 (hd 3 (by simp)))
    generalize frame DoT a0 us = fr at *
    exact append_Jo (.const (.slice none 0 0)) (.tmp 25) 22 rfl 5 i0 _ 1 Try.underlying22 T1.out T2.out T3.out T4.out rfl w'.heap.size _ [] rfl (Own.nil _ _) W.heap.size _ 16 16 L1 (eval_tmp v3) (HN1.out.below hJ.bel) (by decide) (by decide) (Nat.le_refl _) 16 rfl fun A4 c4 w4 g3 g4 O4 B4 => hJ.s4 A4 c4 O4 B4
  · refine stepJ [] (by kernel_rfl) rfl fun m us w' hJ hmi hd => ?_
    have o5 := (frame_old2 (us := us) (a := a0) (show (DoT[5]?).join = none from rfl)).trans k5
    generalize frame DoT a0 us = fr at *
    exact val_J (v := .pointer (some ⟨w.heap.size + 1, 0, none⟩)) (w' := w') (by go_simp) hJ.s5
  · refine stepJ [5] (by kernel_rfl) rfl fun m us w' hJ hmi hd => ?_
    have v5 := (frame_at2 (us := us) hl (show (DoT[27]?).join = some 5 from rfl)).trans (hJ.v5 (hd 5 (by simp)))
    generalize frame DoT a0 us = fr at *
    exact val_J (v := .pointer (some ⟨w.heap.size + 1, 1, none⟩)) (w' := w') (by go_simp) hJ.s6
  · refine stepJ [] (by kernel_rfl) rfl fun m us w' hJ hmi hd => ?_
    have o10 := (frame_old2 (us := us) (a := a0) (show (DoT[10]?).join = none from rfl)).trans k10
    generalize frame DoT a0 us = fr at *
    exact val_J (v := .int .i64 16) (w' := w') (by go_simp) hJ.s7
  · refine stepJ [6, 7] (by kernel_rfl) rfl fun m us w' hJ hmi hd => ?_
    have v6 := (frame_at2 (us := us) hl (show (DoT[28]?).join = some 6 from rfl)).trans (hJ.v6 (hd 6 (by simp)))
    have v7 := (frame_at2 (us := us) hl (show (DoT[29]?).join = some 7 from rfl)).trans (hJ.v7 (hd 7 (by simp)))
    generalize frame DoT a0 us = fr at *
    exact val_J (v := .slice (some ⟨w.heap.size + 1, 1, none⟩) 16 16) (w' := w') (by go_simp) hJ.s8
  · refine stepJ [4, 8] (by kernel_rfl) rfl fun m us w' hJ hmi hd => ?_
    have v8 := (frame_at2 (us := us) hl (show (DoT[30]?).join = some 8 from rfl)).trans (hJ.v8 (hd 8 (by simp)))
    obtain ⟨A4, c4, e4, O4⟩ := hJ.v4 (hd 4 (by simp)) hmi
    have v4 := (frame_at2 (us := us) hl (show (DoT[26]?).join = some 4 from rfl)).trans e4
    generalize frame DoT a0 us = fr at *
    exact append_Jo (.tmp 26) (.tmp 30) 22 rfl 5 i0 _ 1 Try.underlying22 T1.out T2.out T3.out T4.out rfl W.heap.size _ L1 (eval_tmp v4) O4 W.heap.size _ 16 16 L2 (eval_tmp v8) (HN2.out.below hJ.bel) (by rw [Z1.out]; decide) (by rw [Z1.out]; decide) hJ.bel.size 32 (by rw [Z1.out]) fun A5 c5 w5 g3 g4 O5 B5 => hJ.s9 hmi A5 c5 g3 g4 O5 B5
  · refine stepJ [9] (by kernel_rfl) rfl fun m us w' hJ hmi hd => ?_
    obtain ⟨A9, c9, e9, q1, q2, O9⟩ := hJ.v9 (hd 9 (by simp))
    have v9 := (frame_at2 (us := us) hl (show (DoT[31]?).join = some 9 from rfl)).trans e9
    generalize frame DoT a0 us = fr at *
    exact val_J (v := .slice A9 32 c9) (w' := w') (by go_simp) (hJ.s10 (hd 9 (by simp)) A9 c9 q1 q2 O9)
  · intro m us w3 hmm hJ
    obtain ⟨A8, c8, e8, r1, r2, O8⟩ := hJ.v10 (hmm 10 (by decide))
    have hG : Gr W w3 := hJ.bel
    have K8 := own_key O8 ZL.out r1 r2 HBY.out
    subst ha0
    simp only [frame, DoT, fill]
    rw [e8]
    have q1 := Q1.out w3 hG
    have q2 := Q2.out w3 hG
    have PA := Lib.hid (P1.out w3 A8 c8 K8)
    have HB3 := Lib.hid (BW.out.trans (hG.mono BW.out.size))
    clear hJ hmm hl k4 k5 k10 hG K8 e8 O8
    go_upto_region 8 with (first
      | (go_at_call 24; (with_reducible refine PA.out.mono ?_); rintro e w4 ⟨A4, c4, rfl, O4, K4, B4⟩
         have HB4 := Lib.hid ((HB3.out.trans (((alloc_below w3 (.cells #[.int .u64 p1, .int .u64 p2] 53)).trans (B4.mono (alloc_below w3 (.cells #[.int .u64 p1, .int .u64 p2] 53)).size)).mono HB3.out.size)))
         have PB := Lib.hid (P2.out w4 A4 c4 K4)))
    clear q1 q2 PA O4 K4 B4
    go_wp2_with (first
      | (go_at_call 24; (with_reducible refine PB.out.mono ?_); rintro e w5 ⟨A5, c5, rfl, O5, K5, B5⟩))
    go_ret2
    refine ⟨_, _, _, rfl, K5, ?_⟩
    exact HB4.out.trans (((alloc_below w4 (.cells #[.int .u64 i1, .int .u64 i2] 53)).trans (B5.mono (alloc_below w4 (.cells #[.int .u64 i1, .int .u64 i2] 53)).size)).mono HB4.out.size)
theorem rctx_any (cs1 cs2 : Array Value) (s1 s2 : Bool) (b1 b2 : List Int) (p1 p2 i1 i2 : Int) (w : World) (h1 : EndC cs1 s1 b1 p1) (h2 : EndC cs2 s2 b2 p2) (l1 : 0 ≤ i1) (m1 : i1 ≤ 4294967295) (l2 : 0 ≤ i2) (m2 : i2 ≤ 4294967295) :
    Calls Try.prog 16 #[.agg cs1, .agg cs2, .int .u32 i1, .int .u32 i2] w (TwoRet w (ctxX s1 s2 b1 b2 p1 p2 i1 i2) (ctxE s1 s2)) := by
  unfold ctxX ctxE
  by_cases h : s1 = s2
  · subst h
    rw [if_pos rfl, if_pos rfl]
    cases s1
    · exact rctx_four cs1 cs2 b1 b2 p1 p2 i1 i2 w h1 h2 l1 m1 l2 m2
    · exact rctx_six cs1 cs2 b1 b2 p1 p2 i1 i2 w h1 h2 l1 m1 l2 m2
  · rw [if_neg h, if_neg h]
    exact rctx_unlike cs1 cs2 s1 s2 b1 b2 p1 p2 i1 i2 w h1 h2 h
end Go.Proofs.Ythbgjjfhgbkbdaa.kdC
