/-
  CMAC: the walk of CmacFilled.
-/
import Derived.Test.YtknemkekmahdmaaCmJ
namespace Go.Proofs.Ytknemkekmahdmaa.aesC
open Go.ChangeShapes Go.WideShapes Go.ChangeAt Go.RowKit
open Go.Proofs.Ytknemkekmahdmaa.memC Go.Proofs.Ytknemkekmahdmaa.genC Go.Proofs.Ytknemkekmahdmaa.aesM Go.Proofs.Ytknemkekmahdmaa.butC Go.Proofs.Ytknemkekmahdmaa.freeC Go.Proofs.Ytknemkekmahdmaa.partsC
set_option linter.unusedVariables false
/-- bytes, the last sixteen of them turned by both blocks -/
def fillF (T o t : List Nat) (m : Nat) : List Nat := (List.range T.length).map fun i => T.getD i 0 ^^^ (if i < m then 0 else (o.getD (i - m) 0 ^^^ t.getD (i - m) 0))
theorem fillF_len (T o t : List Nat) (m : Nat) : (fillF T o t m).length = T.length := by simp [fillF]
theorem fillF_low {T o t : List Nat} {m i : Nat} (h : i < m) (hT : m ≤ T.length) : (fillF T o t m).getD i 0 = T.getD i 0 := by
  unfold fillF
  rw [getD_map (by omega), if_pos h, Nat.xor_zero]
theorem fillF_high {T o t : List Nat} {m r : Nat} (h : m + r < T.length) : (fillF T o t m).getD (m + r) 0 = T.getD (m + r) 0 ^^^ (o.getD r 0 ^^^ t.getD r 0) := by
  unfold fillF
  rw [getD_map h, if_neg (by omega), show m + r - m = r by omega]
theorem fillF_by {T o t : List Nat} (hT : BY T) (ho : BY o) (ht : BY t) (m : Nat) : BY (fillF T o t m) := BY.map fun i _ => by
  refine xor_lt (hT.at i) ?_
  split
  · decide
  · exact xor_lt (ho.at _) (ht.at _)
theorem fillF_start {T o t : List Nat} {m : Nat} (hT : m ≤ T.length) : mixP (fillF T o t m) T m = T := by
  have e := fillF_len T o t m
  refine getD_ext (by rw [mixP_len e]) fun i hi => ?_
  rcases Nat.lt_or_ge i m with h | h
  · rw [mixP_new e h, fillF_low h hT]
  · rw [mixP_old e h]
theorem getD_zs (a : List Nat) (j i : Nat) : (a ++ zs j).getD i 0 = a.getD i 0 := by
  rcases Nat.lt_or_ge i a.length with h | h
  · exact getD_left h
  · rw [getD_right h, zs_at, getD_out h]
def ints (ns : List Nat) : List Int := ns.map fun n : Nat => (n : Int)
theorem ints_at (ns : List Nat) (i : Nat) : (ints ns).getD i 0 = ((ns.getD i 0 : Nat) : Int) := by
  unfold ints
  rw [List.getD_eq_getElem?_getD, List.getD_eq_getElem?_getD, List.getElem?_map]
  rcases Nat.lt_or_ge i ns.length with h | h
  · rw [List.getElem?_eq_getElem h]; rfl
  · rw [List.getElem?_eq_none h]; rfl
theorem ints_set (ns : List Nat) (i x : Nat) : (ints ns).set i (x : Int) = ints (ns.set i x) := by unfold ints; rw [List.map_set]
theorem ints_of {ys : List Int} (h : ∀ y ∈ ys, Byte y) : ys = ints (nats ys) := by
  unfold ints nats
  rw [List.map_map]
  refine ((List.map_congr_left fun y hy => ?_).trans (List.map_id ys)).symm
  show ((y.toNat : Nat) : Int) = y
  rw [Int.toNat_of_nonneg (h y hy).1]
theorem ints_byte {ns : List Nat} (h : BY ns) : ∀ y ∈ ints ns, Byte y := by
  intro y hy
  obtain ⟨n, hn, rfl⟩ := List.mem_map.1 hy
  have := h n hn
  exact ⟨by omega, by omega⟩
theorem filled_mac {k : List Nat} {msg : List Int} {N q j : Nat} (h : msg.length = 16 * N + q) (hq : q < 16) (h0 : q = 0 → N = 0) (hj : msg.length + 1 + j = 16 * N + 16) :
    macL k (fillF (nats (msg ++ 128 :: List.replicate j 0)) (oneL k) (twoL k) (16 * N)) = macL k (nats msg) := by
  have hl : (nats (msg ++ 128 :: List.replicate j 0)).length = 16 * N + 16 := by rw [nats_len, List.length_append]; simp; omega
  refine macL_filled (bs := nats msg) (n := N) (q := q) (by rw [nats_len]; exact h) hq h0 (by rw [fillF_len, hl]) (fun i hi => ?_) (fun i hi => ?_)
  · rw [fillF_low hi (by omega), nats_pad, getD_zs, getD_left (by rw [nats_len]; omega)]
  · rw [fillF_high (by omega), nats_pad, getD_zs]
theorem cmacfilled_long (k : List Nat) (A : Option Addr) (n c : Nat) (w : World) (hn : n ≤ 9223372036854775807) (h : 300 < n) : Calls Try.prog 6 #[.agg (vec k), .slice A n c] w (AliveRet w) := by
  have d1 : decide (300 < n) = true := by simpa using h
  have BA := alloc_below w (.cells (vec k) 22)
  generalize vec k = K at *
  clear h
  go_enter Try.func6, Try.ntmps6
  go_wp2_with (first
    | (go_at_call 8; (with_reducible refine (long_any A _ _ _ hn).mono ?_); rintro e w' ⟨rfl, rfl⟩)
    | (go_at_call 9; refine (alive_any _).mono ?_; rintro e w' ⟨rfl, B⟩))
  go_ret
  exact ⟨rfl, BA.trans (B.mono BA.size)⟩
theorem cmacfilled_whole (k : List Nat) (A : Option Addr) (n c : Nat) (w : World) (hn : n ≤ 300) (h0 : 0 < n) (h : n % 16 = 0) : Calls Try.prog 6 #[.agg (vec k), .slice A n c] w (AliveRet w) := by
  have d1 : decide (300 < n) = false := by simpa using hn
  have hn2 : n ≤ 9223372036854775807 := by omega
  have z0 : (0 : Int) < (n : Int) := by omega
  have z1 : (n : Int) % 16 = 0 := by omega
  have BA := alloc_below w (.cells (vec k) 22)
  generalize vec k = K at *
  clear h h0
  go_enter Try.func6, Try.ntmps6
  go_wp2_with (first
    | (go_at_call 8; (with_reducible refine (long_any A _ _ _ hn2).mono ?_); rintro e w' ⟨rfl, rfl⟩)
    | (go_at_call 9; refine (alive_any _).mono ?_; rintro e w' ⟨rfl, B⟩))
  go_ret
  exact ⟨rfl, BA.trans (B.mono BA.size)⟩
def FiRV (gq L c4 : Nat) (F : List Int) (A : Option Addr) (n c : Nat) (msg : List Int) (K X : Array Value) : Nat → Value → World → Prop
  | 0, v, _ => v = .agg K
  | 1, v, _ => v = .slice (some ⟨gq, 0, none⟩) L c4
  | 2, v, w => ∃ g, v = .slice (some ⟨g, 0, none⟩) 1 1 ∧ Parts w w.heap.size (some ⟨g, 0, none⟩) [⟨some ⟨gq, 0, none⟩, L, c4, F⟩]
  | 3, v, _ => v = .agg X
  | 4, v, _ => v = .agg K
  | 5, v, _ => v = .slice A n c
  | 6, v, w => ∃ g, v = .slice (some ⟨g, 0, none⟩) 1 1 ∧ Parts w w.heap.size (some ⟨g, 0, none⟩) [⟨A, n, c, msg⟩]
  | 7, v, _ => v = .agg X
  | 8, v, _ => v = .bool true
  | 9, v, _ => v = .bool true
  | 10, v, _ => v = .bool true
  | 11, v, _ => v = .bool true
  | 12, v, _ => v = .bool true
  | _, _, _ => True
theorem FiRV.keep (gq L c4 : Nat) (F : List Int) (A : Option Addr) (n c : Nat) (msg : List Int) (K X : Array Value) (i : Nat) (v : Value) (w w' : World) (hb : Below w.heap.size w w') (h : FiRV gq L c4 F A n c msg K X i v w) : FiRV gq L c4 F A n c msg K X i v w' := by
  by_cases e : i = 2 ∨ i = 6
  · rcases e with rfl | rfl
    · obtain ⟨g, e1, h1⟩ := h
      exact ⟨g, e1, h1.below hb hb.size⟩
    · obtain ⟨g, e1, h1⟩ := h
      exact ⟨g, e1, h1.below hb hb.size⟩
  · unfold FiRV at h ⊢
    split at h <;> first | exact h | exact absurd (by simp) e
def FiRT : List (Option Nat) := [none, none, none, none, some 12, none, none, none, none, none, none, none, none, none, none, none, none, none, none, none, none, none, none, none, none, none, none, none, none, none, none, none, none, none, none, none, none, none, none, none, none, none, none, none, none, none, none, none, none, none, none, none, none, none, none, none, none, none, none, none, some 0, some 1, some 2, some 3, some 4, some 5, some 6, some 7, some 8, some 9, some 10, some 11]
set_option maxRecDepth 100000 in
set_option maxHeartbeats 2000000 in
theorem cmacfilled_none (k : List Nat) (A : Option Addr) (c : Nat) (msg : List Int) (w : World) (hk : k.length = 16) (yk : BY k) (hm : Key w A 0 c msg)  :
    Calls Try.prog 6 #[.agg (vec k), .slice A 0 c] w (AliveRet w) := by
  have d1 : decide (300 < 0) = false := by decide
  have hn : 0 ≤ 9223372036854775807 := by omega
  obtain ⟨i0, hi0, hz0, hz1, hz2⟩ := info_parts byte_inf
  have T1 := Lib.hid hi0; have T2 := Lib.hid hz0; have T3 := Lib.hid hz1; have T4 := Lib.hid hz2
  obtain ⟨K, hK⟩ : ∃ K, K = vec k := ⟨_, rfl⟩
  obtain ⟨O, hO⟩ : ∃ O, O = vec (oneL k) := ⟨_, rfl⟩
  obtain ⟨T, hT⟩ : ∃ T, T = vec (twoL k) := ⟨_, rfl⟩
  obtain ⟨Z, hZ⟩ : ∃ Z, Z = vec (zs 16) := ⟨_, rfl⟩
  obtain ⟨X, hX⟩ : ∃ X, X = vec (macL k (nats msg)) := ⟨_, rfl⟩
  have hzv := zero16
  rw [← hZ] at hzv
  have EX := Lib.hid (show ∀ w, (Op.equalIn 10000 22 (.agg X) (.agg X)).run Try.prog w = .ok true w from fun w => by rw [hX]; exact eq16 (macL_len _ _) w)
  have CB := Lib.hid (fun w => cblocks_any k w hk yk)
  rw [← hK, ← hO, ← hT] at CB
  have UK := Lib.hid (show (Try.prog.info? 22).map (·.size) = some K.size by rw [hK]; exact vec_info hk)
  have UO := Lib.hid (show (Try.prog.info? 22).map (·.size) = some O.size by rw [hO]; exact vec_info (oneL_len _))
  have UT := Lib.hid (show (Try.prog.info? 22).map (·.size) = some T.size by rw [hT]; exact vec_info (twoL_len _))
  have OO := Lib.hid (show O.all (·.oneCell') = true by rw [hO]; exact vec_one _)
  have OT := Lib.hid (show T.all (·.oneCell') = true by rw [hT]; exact vec_one _)
  have ZO := Lib.hid (show Z.size = O.size by rw [hZ, hO, vec_size, vec_size, zs_len, oneL_len])
  have ZT := Lib.hid (show Z.size = T.size by rw [hZ, hT, vec_size, vec_size, zs_len, twoL_len])
  have HK := Lib.hid hK
  have HO := Lib.hid hO
  have HT := Lib.hid hT
  have HX := Lib.hid hX
  have LK := Lib.hid hk
  have YK := Lib.hid yk
  have HM := Lib.hid hm
  have HML := Lib.hid hm.nums.len
  obtain ⟨W, hW⟩ : ∃ W, W = w.alloc (.cells K 22) := ⟨_, rfl⟩
  have RK0 := Lib.hid (show W.heap[w.heap.size]? = some (.cells K 22 (0, 0)) by rw [hW]; exact heap_alloc_new w _)
  have BW := Lib.hid (show Below w.heap.size w W by rw [hW]; exact alloc_below _ _)
  rw [← hK]
  clear hK hO hT hZ hX hi0 hz0 hz1 hz2 hk yk hm
  go_enter Try.func6, Try.ntmps6
  go_upto_region 1 with fail
  rw [← hW]
  clear hW
  go_upto_region 3 with (first
    | (go_at_call 8; (with_reducible refine (long_any A 0 c _ hn).mono ?_); rintro e w' ⟨rfl, rfl⟩))

  go_upto_region 4 with (first
    | (refine wpList_load_row rfl 22 (.tmp 2) rfl w.heap.size rfl _ _ _ _ RK0.out Try.underlying22 rfl UK.out ?_)
    | (go_at_call 14; (with_reducible refine (CB.out _).mono ?_); rintro e w2 ⟨rfl, B5⟩
       have r8 : ((w2.alloc (.cells Z 22)).alloc (.cells Z 22)).heap[w2.heap.size]? = some (.cells Z 22 (0, 0)) := by
         rw [Below.block (alloc_below _ _) _ (by rw [alloc_size]; omega)]; exact heap_alloc_new _ _
       have r9 : (((w2.alloc (.cells Z 22)).alloc (.cells Z 22)).setRow w2.heap.size O).heap[w2.heap.size + 1]? = some (.cells Z 22 (0, 0)) := by
         rw [setRow_other _ _ _ _ (by omega), ← alloc_size w2 (.cells Z 22)]; exact heap_alloc_new _ _
       have X8 := Lib.hid r8
       have X9 := Lib.hid r9
       have B7 := Lib.hid (show Below w2.heap.size w2 (((w2.alloc (.cells Z 22)).alloc (.cells Z 22)).setRow w2.heap.size O) from below_setRow (((Below.refl _ _).alloc (Nat.le_refl _) _).alloc (by simp) _) (Nat.le_refl _) _)
       have Q8 := Lib.hid (setRow_heap _ _ _ O _ _ r8)
       clear r8 r9)
    | (refine wpList_store_row rfl 22 (.tmp 5) (.tmp 26) rfl w2.heap.size _ rfl rfl _ _ X8.out UO.out ZO.out OO.out ?_)
    | (refine wpList_store_row rfl 22 (.tmp 6) (.tmp 27) rfl (w2.heap.size + 1) _ rfl rfl _ _ X9.out UT.out ZT.out OT.out ?_))
  have Qg6 := Lib.hid (setRow_heap _ _ _ T _ _ X9.out)
  have Qg5 := Lib.hid (show ((((w2.alloc (.cells Z 22)).alloc (.cells Z 22)).setRow w2.heap.size O).setRow (w2.heap.size + 1) T).heap[w2.heap.size]? = some (.cells O 22 (0, 0)) by
    rw [setRow_other _ _ _ _ (by omega)]; exact Q8.out)
  have B72 := Lib.hid (below_setRow (k := w2.heap.size + 1) B7.out (by omega) T)
  clear X8 X9 Q8 B7
  generalize (((w2.alloc (.cells Z 22)).alloc (.cells Z 22)).setRow w2.heap.size O).setRow (w2.heap.size + 1) T = w3 at *
  have bw3 := Lib.hid (show Below W.heap.size W w3 from B5.trans (B72.out.mono B5.size))
  generalize w2.heap.size + 1 = g6 at *
  generalize w2.heap.size = g5 at *
  clear B5 B72
  have BW3 := Lib.hid (BW.out.trans (bw3.out.mono BW.out.size))
  have B5 := Lib.hid (show Bl 22 w3 g5 (oneL k) from ⟨by rw [← HO.out]; exact Qg5.out⟩)
  have B6 := Lib.hid (show Bl 22 w3 g6 (twoL k) from ⟨by rw [← HT.out]; exact Qg6.out⟩)
  have RK3 := Lib.hid (Gr.row bw3.out RK0.out)
  have NW := Lib.hid (HM.out.below BW3.out).nums
  clear BW bw3 Qg5 Qg6 RK0 CB hzv
  go_upto_region 5 with (first
    | (at_builtin; (refine wpList_appT _ rfl (.const (.slice none 0 0)) (.tmp 28) _ rfl 5 i0 _ 1 Try.underlying23 T1.out T2.out T3.out T4.out rfl w3.heap.size _ [] rfl (Own.nil _ _) w3.heap.size A 0 c msg rfl NW.out (by simp only [maxLen, List.length_nil]; omega) (by simp only [List.length_nil]; omega) (Nat.le_refl _) 0 (by simp) ?_)
       intro A2 c2 w4 g2 g2' O2 B2
       have O2 : Own .u8 5 w4 w3.heap.size (.slice A2 0 c2) msg := O2
       have S2 : w3.heap.size ≤ w4.heap.size := Below.size B2)
    | (at_builtin; (refine wpList_app1T _ rfl (.tmp 29) (.tmp 30) _ rfl 5 i0 _ 1 Try.underlying23 T1.out T2.out T3.out T4.out rfl w3.heap.size _ msg rfl O2 128 rfl (by rw [HML.out]; simp only [maxLen]; omega) (by rw [HML.out]; omega) S2 (0 + 1) (by rw [HML.out]) ?_)
       intro A3 c3 w5 g3 g3' O3 B3
       have P5 := Lib.hid (show AllR w3 (msg ++ 128 :: List.replicate 0 0) (.slice A3 (0 + 1) c3) w5 from ⟨A3, c3, 0 + 1, rfl, by simp [HML.out], g3, g3', O3, B2.trans B3⟩)))
  clear O2 B2 O3 B3 S2 g2 g2' g3 g3' NW
  go_wp2_with fail
  go_loopw [7] (fun v wr => ∃ j : Nat, j ≤ 15 - 0 % 16 ∧ AllR w3 (msg ++ 128 :: List.replicate j 0) v wr) (fun v _ => 16 - 0 % 16 + 0 + 1 - lenOf v)
  case atStart => exact ⟨0, Nat.zero_le _, P5.out⟩
  case round =>
    obtain ⟨j, hj, A4, c4, L, rfl, hl, g4, g4', O4, B4⟩ := hrel
    have hL : L = 0 + 1 + j := by rw [← hl]; simp [HML.out]; omega
    have HLj := Lib.hid hL
    have hL2 : L ≤ 400 := by omega
    have HTl := Lib.hid hl
    have S4 := Lib.hid (Below.size B4)
    have HO4 := Lib.hid O4
    have HB4 := Lib.hid B4
    clear hl hL O4 B4
    by_cases hlt : j < 15 - 0 % 16
    · have e3 : ¬ ((L : Int) % 16 = 0) := by have := HLj.out; omega
      go_wp2_with (first
        | (at_builtin; (refine wpList_app1T _ rfl (.tmp 36) (.tmp 37) _ rfl 5 i0 _ 1 Try.underlying23 T1.out T2.out T3.out T4.out rfl w3.heap.size _ _ rfl HO4.out 0 rfl (by rw [HTl.out]; simp only [maxLen]; omega) (by rw [HTl.out]; omega) S4.out (L + 1) (by rw [HTl.out]) ?_)
           intro A5 c5 w6 g5' g5'' O6 B6'
           have P6 := Lib.hid (show AllR w3 (msg ++ 128 :: List.replicate (j + 1) 0) (.slice A5 (L + 1) c5) w6 by
             rw [pad_snoc] at O6
             exact ⟨A5, c5, L + 1, rfl, by rw [← pad_snoc, List.length_append, HTl.out]; rfl, g5', g5'', O6, HB4.out.trans B6'⟩)
           clear O6 B6' g5' g5''))
      clear e3
      go_roundw
      case rel => exact ⟨j + 1, by omega, P6.out⟩
      case measure => simp [lenOf]; have := HLj.out; omega
    · have e : j = 15 - 0 % 16 := by omega
      have e1 : (L : Int) % 16 = 0 := by have := HLj.out; omega
      obtain ⟨N, hN⟩ : ∃ N, N = 0 / 16 := ⟨_, rfl⟩
      have LN := Lib.hid (show L = 16 * N + 16 by have := HLj.out; omega)
      have HMAC := Lib.hid (filled_mac (k := k) (msg := msg) (N := N) (q := 0 % 16) (j := j) (by rw [HML.out]; omega) (by omega) (by omega) (by rw [HML.out]; have := HLj.out; omega))
      have TB : ∀ x ∈ msg ++ 128 :: List.replicate j 0, Byte x := by
        intro x hx
        rcases List.mem_append.1 hx with h1 | h1
        · exact HM.out.byte x h1
        · rcases List.mem_cons.1 h1 with rfl | h1
          · exact ⟨by decide, by decide⟩
          · rw [List.eq_of_mem_replicate h1]; exact ⟨by decide, by decide⟩
      have hTT := ints_of TB
      have YT := Lib.hid (nats_by TB)
      obtain ⟨TN, hTN⟩ : ∃ TN, TN = nats (msg ++ 128 :: List.replicate j 0) := ⟨_, rfl⟩
      have LT := Lib.hid (show TN.length = L by rw [hTN, nats_len]; exact HTl.out)
      rw [hTT, ← hTN] at HO4
      rw [← hTN] at YT HMAC
      obtain ⟨F, hF⟩ : ∃ F, F = fillF TN (oneL k) (twoL k) (16 * N) := ⟨_, rfl⟩
      rw [← hF] at HMAC
      have LF := Lib.hid (show F.length = TN.length by rw [hF]; exact fillF_len _ _ _ _)
      have YF := Lib.hid (show BY F by rw [hF]; exact fillF_by YT.out (oneL_by YK.out LK.out) (twoL_by YK.out LK.out) _)
      have HF := Lib.hid hF
      obtain ⟨mm, hmm⟩ : ∃ mm, mm = 16 * N := ⟨_, rfl⟩
      have HMM := Lib.hid hmm
      have M0 := Lib.hid (show mixP F TN mm = TN by rw [hF, hmm]; exact fillF_start (by rw [LT.out, LN.out]; omega))
      obtain ⟨gq, hA4, hgq, -, -, -⟩ := HO4.out.row (show 0 < L by rw [LN.out]; omega)
      subst hA4
      have HGQ := Lib.hid hgq
      have HO5 := Lib.hid (show Own .u8 5 wr w3.heap.size (.slice (some ⟨gq, 0, none⟩) L c4) (ints (mixP F TN mm)) by rw [M0.out]; exact HO4.out)
      have LN3 := Lib.hid (show L = mm + 16 by rw [LN.out, hmm])
      clear e hlt hN hTN hTT TB hF hmm hgq HO4 HTl hj M0 HLj P5
      go_upto_region 7 with fail
      clear e1
      go_wp2_with fail
      go_loopw [39] (fun i wx => ∃ r : Nat, r ≤ 16 ∧ i = .int .i64 (r : Int) ∧ Own .u8 5 wx w3.heap.size (.slice (some ⟨gq, 0, none⟩) L c4) (ints (mixP F TN (mm + r))) ∧ Below w3.heap.size w3 wx) (fun i _ => 16 - (intOf i).toNat)
      case atStart => exact ⟨0, by omega, rfl, HO5.out, HB4.out⟩
      case round =>
        obtain ⟨r, hr, rfl, OW, BX⟩ := hrel
        have HOW := Lib.hid OW
        have HBX := Lib.hid BX
        clear OW BX
        by_cases hr16 : r < 16
        · have hrz : (r : Int) < 16 := by omega
          obtain ⟨p, hp⟩ : ∃ p, p = mm + r := ⟨_, rfl⟩
          have hmz : (L : Int) - 16 = (mm : Int) := by have := LN3.out; omega
          have hmw : IntKind.i64.wrap (mm : Int) = (mm : Int) := IntWalk.i64_in _ (by have := LN3.out; omega)
          have hpz : (mm : Int) + (r : Int) = (p : Int) := by omega
          have hpL : (p : Int) < (L : Int) := by have := LN3.out; omega
          have hpw : IntKind.i64.wrap (p : Int) = (p : Int) := IntWalk.i64_in _ (by omega)
          obtain ⟨gq', hq', -, hqlt, hcell, hfro⟩ := HOW.out.row (show 0 < L by have := LN3.out; omega)
          obtain rfl : gq = gq' := by injection hq' with h1; injection h1
          have c0 := hcell p (by omega)
          rw [ints_at, ← hp, mixP_old LF.out (Nat.le_refl _)] at c0
          have f0 := hfro p
          have c1 := (B5.out.below HBX.out B5.out.lt).cell (j := r) (by rw [oneL_len]; exact hr16)
          have c2 := (B6.out.below HBX.out B6.out.lt).cell (j := r) (by rw [twoL_len]; exact hr16)
          have x2 := YT.out.at p
          have o2 := (oneL_by YK.out LK.out).at r
          have t2 := (twoL_by YK.out LK.out).at r
          have hv := fillF_high (T := TN) (o := oneL k) (t := twoL k) (m := 16 * N) (r := r) (by rw [LT.out, LN.out]; omega)
          rw [← HF.out, ← HMM.out, ← hp] at hv
          have hst := HOW.out.stored p ((F.getD p 0 : Nat) : Int)
          rw [ints_set, ← hp, mixP_set LF.out (by rw [LT.out]; omega)] at hst
          rw [hv] at hst
          obtain ⟨x, hx⟩ : ∃ x, x = TN.getD p 0 := ⟨_, rfl⟩
          obtain ⟨y, hy⟩ : ∃ y, y = (oneL k).getD r 0 := ⟨_, rfl⟩
          obtain ⟨z, hz⟩ : ∃ z, z = (twoL k).getD r 0 := ⟨_, rfl⟩
          rw [← hx] at c0 x2 hst
          rw [← hy] at c1 o2 hst
          rw [← hz] at c2 t2 hst
          obtain ⟨u, hu⟩ : ∃ u, u = y ^^^ z := ⟨_, rfl⟩
          obtain ⟨v, hve⟩ : ∃ v, v = x ^^^ u := ⟨_, rfl⟩
          rw [← hu, ← hve] at hst
          have hyz : bits .xor .u8 (y : Int) (z : Int) = (u : Int) := by rw [hu]; exact xor_b o2 t2
          have hxu : bits .xor .u8 (x : Int) (u : Int) = (v : Int) := by rw [hve]; exact xor_b x2 (by rw [hu]; exact xor_lt o2 t2)
          have HS := Lib.hid hst
          have HPP := Lib.hid hp
          clear hx hy hz hu hve x2 o2 t2 hst hv hcell hfro hp hq'
          go_upto_region 10 with fail
          go_still_tail 17, (by kernel_rfl)
          change wpList _ _ _ _ _ wr.drew
          go_upto_region 11 with fail
          clear c0 c1 c2 hyz hxu
          change Code.wp _ _ _ _ (wr.drew.setCell ⟨gq, p, none⟩ (.int .u8 (v : Int)))
          have OS := Lib.hid (show Own .u8 5 (wr.drew.setCell ⟨gq, p, none⟩ (.int .u8 (v : Int))) w3.heap.size (.slice (some ⟨gq, 0, none⟩) L c4) (ints (mixP F TN (mm + (r + 1)))) by
            rw [show mm + (r + 1) = p + 1 by have := HPP.out; omega]
            exact HS.out.keep fun g _ _ => rfl)
          have BS := Lib.hid (show Below w3.heap.size w3 (wr.drew.setCell ⟨gq, p, none⟩ (.int .u8 (v : Int))) from HBX.out.drew.setCell (p := ⟨gq, p, none⟩) HGQ.out _)
          generalize wr.drew.setCell ⟨gq, p, none⟩ (.int .u8 (v : Int)) = w9 at *
          clear HS f0 hmz hpz hmw hpw
          go_wp2_with fail
          go_roundw
          case rel => exact ⟨r + 1, by omega, by go_num, OS.out, BS.out⟩
          case measure => simp [intOf]; omega
        · have e : r = 16 := by omega
          subst e
          obtain ⟨w6, hw6⟩ : ∃ w6, w6 = wr := ⟨_, rfl⟩
          subst hw6
          have OF := HOW.out
          rw [show mm + 16 = TN.length by rw [LT.out, LN3.out], mixP_full LF.out] at OF
          have HOF := Lib.hid OF
          have BW6 := Lib.hid (BW3.out.trans (HBX.out.mono BW3.out.size))
          have RK := Lib.hid (show w6.heap[w.heap.size]? = some (.cells K 22 (0, 0)) by rw [HBX.out.block _ (row_lt2 RK3.out)]; exact RK3.out)
          obtain ⟨FI, hFI⟩ : ∃ FI, FI = ints F := ⟨_, rfl⟩
          have YFI := Lib.hid (show ∀ x ∈ FI, Byte x by rw [hFI]; exact ints_byte YF.out)
          have NFI := Lib.hid (show nats FI = F by rw [hFI]; exact ints_nats F)
          rw [← hFI] at HOF
          have PM1 := Lib.hid (show ∀ w', Gr w6 w' → PartAt w' w'.heap.size ⟨some ⟨gq, 0, none⟩, L, c4, FI⟩ from fun w' hG => ⟨(HOF.out.below hG).nums, (show L ≤ 10000 by omega), YFI.out, g4, (show c4 ≤ 9223372036854775807 by simpa [maxLen] using g4')⟩)
          have PM2 := Lib.hid (show ∀ w', Gr w6 w' → PartAt w' w'.heap.size ⟨A, 0, c, msg⟩ from fun w' hG => (HM.out.below (BW6.out.trans (hG.mono BW6.out.size))).partAt (by omega))
          have OA := Lib.hid (show ∀ w' g, Gr w6 w' → Parts w' w'.heap.size (some ⟨g, 0, none⟩) [⟨some ⟨gq, 0, none⟩, L, c4, FI⟩] → Calls Try.prog 10 #[.agg K, .slice (some ⟨g, 0, none⟩) 1 1] w' (Ret w' (.agg X)) from fun w' g _ hP => by
            have h := mac1 hP LK.out YK.out
            rw [NFI.out, HMAC.out] at h
            rw [HK.out, HX.out]; exact h)
          have OM := Lib.hid (show ∀ w' g, Gr w6 w' → Parts w' w'.heap.size (some ⟨g, 0, none⟩) [⟨A, 0, c, msg⟩] → Calls Try.prog 10 #[.agg K, .slice (some ⟨g, 0, none⟩) 1 1] w' (Ret w' (.agg X)) from fun w' g _ hP => by rw [HK.out, HX.out]; exact mac1 hP LK.out YK.out)
          clear OF HOW hFI hr16 hr
          go_upto_region 12 with fail
          refine with_act fun a0 ha0 => ?_
          have hl : FiRT.length = a0.tmps.size := by rw [ha0]; rfl
          have k1 : a0.tmps[1]?.getD undef = .slice A 0 c := by rw [ha0]; rfl
          have k2 : a0.tmps[2]?.getD undef = .pointer (some ⟨w.heap.size, 0, none⟩) := by rw [ha0]; rfl
          have k7 : a0.tmps[7]?.getD undef = .slice (some ⟨gq, 0, none⟩) L c4 := by rw [ha0]; rfl
          refine wp_region_vals (by kernel_rfl) FiRT (by kernel_rfl) (by kernel_rfl) hl (fun i => if i = 12 then a0.tmps[4]?.getD undef else undef) (by rw [ha0]; rfl) (Gr w6) (FiRV gq L c4 FI A 0 c msg K X) (gr_drew _) (FiRV.keep _ _ _ _ _ _ _ _ _ _) ⟨?_, ?_, ?_, ?_, ?_, ?_, ?_, ?_, ?_, ?_, ?_, ?_, ?_, trivial⟩ ?_
          · refine step_plain [] (by kernel_rfl) rfl fun us w' hG hV => ?_
            have o2 := (frame_old2 (us := us) (a := a0) (show (FiRT[2]?).join = none from rfl)).trans k2
            have hg1 := hG.row RK.out
            generalize frame FiRT a0 us = fr at *
            exact load_ok 22 2 rfl w.heap.size o2 _ _ (0, 0) _ hg1 Try.underlying22 rfl UK.out hG rfl
          · refine step_plain [] (by kernel_rfl) rfl fun us w' hG hV => ?_
            have o7 := (frame_old2 (us := us) (a := a0) (show (FiRT[7]?).join = none from rfl)).trans k7
            generalize frame FiRT a0 us = fr at *
            exact val_ok (v := .slice (some ⟨gq, 0, none⟩) L c4) (w' := w') (by go_simp) hG (Below.refl _ _) rfl
          · refine step_plain [1] (by kernel_rfl) rfl fun us w' hG hV => ?_
            have e1 : us 1 = .slice (some ⟨gq, 0, none⟩) L c4 := hV 1 (by simp)
            have v1 := (frame_at2 (us := us) hl (show (FiRT[61]?).join = some 1 from rfl)).trans e1
            generalize frame FiRT a0 us = fr at *
            exact val_ok (v := .slice (some ⟨w'.heap.size, 0, none⟩) 1 1) (w' := w'.alloc (.cells #[.slice (some ⟨gq, 0, none⟩) L c4] 23)) (by go_simp) (hG.below (alloc_below _ _)) (alloc_below _ _) ⟨_, rfl, parts1 (PM1.out w' hG) _⟩
          · refine step_plain [0, 2] (by kernel_rfl) rfl fun us w' hG hV => ?_
            have e0 : us 0 = .agg K := hV 0 (by simp)
            have v0 := (frame_at2 (us := us) hl (show (FiRT[60]?).join = some 0 from rfl)).trans e0
            obtain ⟨g, e2, hP⟩ : ∃ g, us 2 = .slice (some ⟨g, 0, none⟩) 1 1 ∧ Parts w' w'.heap.size (some ⟨g, 0, none⟩) [⟨some ⟨gq, 0, none⟩, L, c4, FI⟩] := hV 2 (by simp)
            have v2 := (frame_at2 (us := us) hl (show (FiRT[62]?).join = some 2 from rfl)).trans e2
            generalize frame FiRT a0 us = fr at *
            exact call_ok (f := 10) (args := #[.agg K, .slice (some ⟨g, 0, none⟩) 1 1]) (by go_simp) ((OA.out w' g hG hP).mono fun e w'' h => ⟨_, h.1, hG.below h.2, h.2, rfl⟩)
          · refine step_plain [] (by kernel_rfl) rfl fun us w' hG hV => ?_
            have o2 := (frame_old2 (us := us) (a := a0) (show (FiRT[2]?).join = none from rfl)).trans k2
            have hg1 := hG.row RK.out
            generalize frame FiRT a0 us = fr at *
            exact load_ok 22 2 rfl w.heap.size o2 _ _ (0, 0) _ hg1 Try.underlying22 rfl UK.out hG rfl
          · refine step_plain [] (by kernel_rfl) rfl fun us w' hG hV => ?_
            have o1 := (frame_old2 (us := us) (a := a0) (show (FiRT[1]?).join = none from rfl)).trans k1
            generalize frame FiRT a0 us = fr at *
            exact val_ok (v := .slice A 0 c) (w' := w') (by go_simp) hG (Below.refl _ _) rfl
          · refine step_plain [5] (by kernel_rfl) rfl fun us w' hG hV => ?_
            have e5 : us 5 = .slice A 0 c := hV 5 (by simp)
            have v5 := (frame_at2 (us := us) hl (show (FiRT[65]?).join = some 5 from rfl)).trans e5
            generalize frame FiRT a0 us = fr at *
            exact val_ok (v := .slice (some ⟨w'.heap.size, 0, none⟩) 1 1) (w' := w'.alloc (.cells #[.slice A 0 c] 23)) (by go_simp) (hG.below (alloc_below _ _)) (alloc_below _ _) ⟨_, rfl, parts1 (PM2.out w' hG) _⟩
          · refine step_plain [4, 6] (by kernel_rfl) rfl fun us w' hG hV => ?_
            have e4 : us 4 = .agg K := hV 4 (by simp)
            have v4 := (frame_at2 (us := us) hl (show (FiRT[64]?).join = some 4 from rfl)).trans e4
            obtain ⟨g, e6, hP⟩ : ∃ g, us 6 = .slice (some ⟨g, 0, none⟩) 1 1 ∧ Parts w' w'.heap.size (some ⟨g, 0, none⟩) [⟨A, 0, c, msg⟩] := hV 6 (by simp)
            have v6 := (frame_at2 (us := us) hl (show (FiRT[66]?).join = some 6 from rfl)).trans e6
            generalize frame FiRT a0 us = fr at *
            exact call_ok (f := 10) (args := #[.agg K, .slice (some ⟨g, 0, none⟩) 1 1]) (by go_simp) ((OM.out w' g hG hP).mono fun e w'' h => ⟨_, h.1, hG.below h.2, h.2, rfl⟩)
          · refine step_plain [3, 7] (by kernel_rfl) rfl fun us w' hG hV => ?_
            have e3 : us 3 = .agg X := hV 3 (by simp)
            have v3 := (frame_at2 (us := us) hl (show (FiRT[63]?).join = some 3 from rfl)).trans e3
            have e7 : us 7 = .agg X := hV 7 (by simp)
            have v7 := (frame_at2 (us := us) hl (show (FiRT[67]?).join = some 7 from rfl)).trans e7
            have hq := EX.out w'
            have hgd := guard16
            generalize frame FiRT a0 us = fr at *
            exact val_ok (v := .bool true) (w' := w') (by go_simp) hG (Below.refl _ _) rfl
          · refine step_plain [8] (by kernel_rfl) rfl fun us w' hG hV => ?_
            have e8 : us 8 = .bool true := hV 8 (by simp)
            have v8 := (frame_at2 (us := us) hl (show (FiRT[68]?).join = some 8 from rfl)).trans e8
            generalize frame FiRT a0 us = fr at *
            exact val_ok (v := .bool true) (w' := w') (by go_simp) hG (Below.refl _ _) rfl
          · refine step_guard [9] (by kernel_rfl) (j := 9) (t := 69) (b := true) rfl (by simp) rfl hl rfl (fun v w h => h) fun us w' hG hV => ?_
            have e9 : us 9 = .bool true := hV 9 (by simp)
            have v9 := (frame_at2 (us := us) hl (show (FiRT[69]?).join = some 9 from rfl)).trans e9
            generalize frame FiRT a0 us = fr at *
            exact call_ok (f := 9) (args := #[]) (by go_simp) ((alive_any w').mono fun e w'' h => ⟨_, h.1, hG.below h.2, h.2, rfl⟩)
          · refine step_plain [9, 10] (by kernel_rfl) rfl fun us w' hG hV => ?_
            have e9 : us 9 = .bool true := hV 9 (by simp)
            have v9 := (frame_at2 (us := us) hl (show (FiRT[69]?).join = some 9 from rfl)).trans e9
            have e10 : us 10 = .bool true := hV 10 (by simp)
            have v10 := (frame_at2 (us := us) hl (show (FiRT[70]?).join = some 10 from rfl)).trans e10
            generalize frame FiRT a0 us = fr at *
            exact val_ok (v := .bool true) (w' := w') (by go_simp) hG (Below.refl _ _) rfl
          · refine step_plain [11] (by kernel_rfl) rfl fun us w' hG hV => ?_
            have e11 : us 11 = .bool true := hV 11 (by simp)
            have v11 := (frame_at2 (us := us) hl (show (FiRT[71]?).join = some 11 from rfl)).trans e11
            generalize frame FiRT a0 us = fr at *
            exact val_ok (v := .bool true) (w' := w') (by go_simp) hG (Below.refl _ _) rfl
          · intro us w' hG hV
            have eL : us 12 = .bool true := hV 12 (by decide)
            subst ha0
            simp only [frame, FiRT, fill]
            rw [eL]
            go_wp2_with fail
            go_ret
            exact ⟨rfl, BW6.out.trans (hG.mono BW6.out.size)⟩
set_option maxRecDepth 100000 in
set_option maxHeartbeats 2000000 in
theorem cmacfilled_some (k : List Nat) (A : Option Addr) (n c : Nat) (msg : List Int) (w : World) (hk : k.length = 16) (yk : BY k) (hm : Key w A n c msg) (h3 : n ≤ 300) (h0 : 0 < n) (h16 : n % 16 ≠ 0) :
    Calls Try.prog 6 #[.agg (vec k), .slice A n c] w (AliveRet w) := by
  have d1 : decide (300 < n) = false := by simpa using h3
  have z0 : (0 : Int) < (n : Int) := by omega
  have z1 : ¬ ((n : Int) % 16 = 0) := by omega
  have hn : n ≤ 9223372036854775807 := by omega
  obtain ⟨i0, hi0, hz0, hz1, hz2⟩ := info_parts byte_inf
  have T1 := Lib.hid hi0; have T2 := Lib.hid hz0; have T3 := Lib.hid hz1; have T4 := Lib.hid hz2
  obtain ⟨K, hK⟩ : ∃ K, K = vec k := ⟨_, rfl⟩
  obtain ⟨O, hO⟩ : ∃ O, O = vec (oneL k) := ⟨_, rfl⟩
  obtain ⟨T, hT⟩ : ∃ T, T = vec (twoL k) := ⟨_, rfl⟩
  obtain ⟨Z, hZ⟩ : ∃ Z, Z = vec (zs 16) := ⟨_, rfl⟩
  obtain ⟨X, hX⟩ : ∃ X, X = vec (macL k (nats msg)) := ⟨_, rfl⟩
  have hzv := zero16
  rw [← hZ] at hzv
  have EX := Lib.hid (show ∀ w, (Op.equalIn 10000 22 (.agg X) (.agg X)).run Try.prog w = .ok true w from fun w => by rw [hX]; exact eq16 (macL_len _ _) w)
  have CB := Lib.hid (fun w => cblocks_any k w hk yk)
  rw [← hK, ← hO, ← hT] at CB
  have UK := Lib.hid (show (Try.prog.info? 22).map (·.size) = some K.size by rw [hK]; exact vec_info hk)
  have UO := Lib.hid (show (Try.prog.info? 22).map (·.size) = some O.size by rw [hO]; exact vec_info (oneL_len _))
  have UT := Lib.hid (show (Try.prog.info? 22).map (·.size) = some T.size by rw [hT]; exact vec_info (twoL_len _))
  have OO := Lib.hid (show O.all (·.oneCell') = true by rw [hO]; exact vec_one _)
  have OT := Lib.hid (show T.all (·.oneCell') = true by rw [hT]; exact vec_one _)
  have ZO := Lib.hid (show Z.size = O.size by rw [hZ, hO, vec_size, vec_size, zs_len, oneL_len])
  have ZT := Lib.hid (show Z.size = T.size by rw [hZ, hT, vec_size, vec_size, zs_len, twoL_len])
  have HK := Lib.hid hK
  have HO := Lib.hid hO
  have HT := Lib.hid hT
  have HX := Lib.hid hX
  have LK := Lib.hid hk
  have YK := Lib.hid yk
  have HM := Lib.hid hm
  have HML := Lib.hid hm.nums.len
  obtain ⟨W, hW⟩ : ∃ W, W = w.alloc (.cells K 22) := ⟨_, rfl⟩
  have RK0 := Lib.hid (show W.heap[w.heap.size]? = some (.cells K 22 (0, 0)) by rw [hW]; exact heap_alloc_new w _)
  have BW := Lib.hid (show Below w.heap.size w W by rw [hW]; exact alloc_below _ _)
  rw [← hK]
  clear hK hO hT hZ hX hi0 hz0 hz1 hz2 hk yk hm
  go_enter Try.func6, Try.ntmps6
  go_upto_region 1 with fail
  rw [← hW]
  clear hW
  go_upto_region 3 with (first
    | (go_at_call 8; (with_reducible refine (long_any A n c _ hn).mono ?_); rintro e w' ⟨rfl, rfl⟩))
  clear z0 z1
  go_upto_region 4 with (first
    | (refine wpList_load_row rfl 22 (.tmp 2) rfl w.heap.size rfl _ _ _ _ RK0.out Try.underlying22 rfl UK.out ?_)
    | (go_at_call 14; (with_reducible refine (CB.out _).mono ?_); rintro e w2 ⟨rfl, B5⟩
       have r8 : ((w2.alloc (.cells Z 22)).alloc (.cells Z 22)).heap[w2.heap.size]? = some (.cells Z 22 (0, 0)) := by
         rw [Below.block (alloc_below _ _) _ (by rw [alloc_size]; omega)]; exact heap_alloc_new _ _
       have r9 : (((w2.alloc (.cells Z 22)).alloc (.cells Z 22)).setRow w2.heap.size O).heap[w2.heap.size + 1]? = some (.cells Z 22 (0, 0)) := by
         rw [setRow_other _ _ _ _ (by omega), ← alloc_size w2 (.cells Z 22)]; exact heap_alloc_new _ _
       have X8 := Lib.hid r8
       have X9 := Lib.hid r9
       have B7 := Lib.hid (show Below w2.heap.size w2 (((w2.alloc (.cells Z 22)).alloc (.cells Z 22)).setRow w2.heap.size O) from below_setRow (((Below.refl _ _).alloc (Nat.le_refl _) _).alloc (by simp) _) (Nat.le_refl _) _)
       have Q8 := Lib.hid (setRow_heap _ _ _ O _ _ r8)
       clear r8 r9)
    | (refine wpList_store_row rfl 22 (.tmp 5) (.tmp 26) rfl w2.heap.size _ rfl rfl _ _ X8.out UO.out ZO.out OO.out ?_)
    | (refine wpList_store_row rfl 22 (.tmp 6) (.tmp 27) rfl (w2.heap.size + 1) _ rfl rfl _ _ X9.out UT.out ZT.out OT.out ?_))
  have Qg6 := Lib.hid (setRow_heap _ _ _ T _ _ X9.out)
  have Qg5 := Lib.hid (show ((((w2.alloc (.cells Z 22)).alloc (.cells Z 22)).setRow w2.heap.size O).setRow (w2.heap.size + 1) T).heap[w2.heap.size]? = some (.cells O 22 (0, 0)) by
    rw [setRow_other _ _ _ _ (by omega)]; exact Q8.out)
  have B72 := Lib.hid (below_setRow (k := w2.heap.size + 1) B7.out (by omega) T)
  clear X8 X9 Q8 B7
  generalize (((w2.alloc (.cells Z 22)).alloc (.cells Z 22)).setRow w2.heap.size O).setRow (w2.heap.size + 1) T = w3 at *
  have bw3 := Lib.hid (show Below W.heap.size W w3 from B5.trans (B72.out.mono B5.size))
  generalize w2.heap.size + 1 = g6 at *
  generalize w2.heap.size = g5 at *
  clear B5 B72
  have BW3 := Lib.hid (BW.out.trans (bw3.out.mono BW.out.size))
  have B5 := Lib.hid (show Bl 22 w3 g5 (oneL k) from ⟨by rw [← HO.out]; exact Qg5.out⟩)
  have B6 := Lib.hid (show Bl 22 w3 g6 (twoL k) from ⟨by rw [← HT.out]; exact Qg6.out⟩)
  have RK3 := Lib.hid (Gr.row bw3.out RK0.out)
  have NW := Lib.hid (HM.out.below BW3.out).nums
  clear BW bw3 Qg5 Qg6 RK0 CB hzv
  go_upto_region 5 with (first
    | (at_builtin; (refine wpList_appT _ rfl (.const (.slice none 0 0)) (.tmp 28) _ rfl 5 i0 _ 1 Try.underlying23 T1.out T2.out T3.out T4.out rfl w3.heap.size _ [] rfl (Own.nil _ _) w3.heap.size A n c msg rfl NW.out (by simp only [maxLen, List.length_nil]; omega) (by simp only [List.length_nil]; omega) (Nat.le_refl _) n (by simp) ?_)
       intro A2 c2 w4 g2 g2' O2 B2
       have O2 : Own .u8 5 w4 w3.heap.size (.slice A2 n c2) msg := O2
       have S2 : w3.heap.size ≤ w4.heap.size := Below.size B2)
    | (at_builtin; (refine wpList_app1T _ rfl (.tmp 29) (.tmp 30) _ rfl 5 i0 _ 1 Try.underlying23 T1.out T2.out T3.out T4.out rfl w3.heap.size _ msg rfl O2 128 rfl (by rw [HML.out]; simp only [maxLen]; omega) (by rw [HML.out]; omega) S2 (n + 1) (by rw [HML.out]) ?_)
       intro A3 c3 w5 g3 g3' O3 B3
       have P5 := Lib.hid (show AllR w3 (msg ++ 128 :: List.replicate 0 0) (.slice A3 (n + 1) c3) w5 from ⟨A3, c3, n + 1, rfl, by simp [HML.out], g3, g3', O3, B2.trans B3⟩)))
  clear O2 B2 O3 B3 S2 g2 g2' g3 g3' NW
  go_wp2_with fail
  go_loopw [7] (fun v wr => ∃ j : Nat, j ≤ 15 - n % 16 ∧ AllR w3 (msg ++ 128 :: List.replicate j 0) v wr) (fun v _ => 16 - n % 16 + n + 1 - lenOf v)
  case atStart => exact ⟨0, Nat.zero_le _, P5.out⟩
  case round =>
    obtain ⟨j, hj, A4, c4, L, rfl, hl, g4, g4', O4, B4⟩ := hrel
    have hL : L = n + 1 + j := by rw [← hl]; simp [HML.out]; omega
    have HLj := Lib.hid hL
    have hL2 : L ≤ 400 := by omega
    have HTl := Lib.hid hl
    have S4 := Lib.hid (Below.size B4)
    have HO4 := Lib.hid O4
    have HB4 := Lib.hid B4
    clear hl hL O4 B4
    by_cases hlt : j < 15 - n % 16
    · have e3 : ¬ ((L : Int) % 16 = 0) := by have := HLj.out; omega
      go_wp2_with (first
        | (at_builtin; (refine wpList_app1T _ rfl (.tmp 36) (.tmp 37) _ rfl 5 i0 _ 1 Try.underlying23 T1.out T2.out T3.out T4.out rfl w3.heap.size _ _ rfl HO4.out 0 rfl (by rw [HTl.out]; simp only [maxLen]; omega) (by rw [HTl.out]; omega) S4.out (L + 1) (by rw [HTl.out]) ?_)
           intro A5 c5 w6 g5' g5'' O6 B6'
           have P6 := Lib.hid (show AllR w3 (msg ++ 128 :: List.replicate (j + 1) 0) (.slice A5 (L + 1) c5) w6 by
             rw [pad_snoc] at O6
             exact ⟨A5, c5, L + 1, rfl, by rw [← pad_snoc, List.length_append, HTl.out]; rfl, g5', g5'', O6, HB4.out.trans B6'⟩)
           clear O6 B6' g5' g5''))
      clear e3
      go_roundw
      case rel => exact ⟨j + 1, by omega, P6.out⟩
      case measure => simp [lenOf]; have := HLj.out; omega
    · have e : j = 15 - n % 16 := by omega
      have e1 : (L : Int) % 16 = 0 := by have := HLj.out; omega
      obtain ⟨N, hN⟩ : ∃ N, N = n / 16 := ⟨_, rfl⟩
      have LN := Lib.hid (show L = 16 * N + 16 by have := HLj.out; omega)
      have HMAC := Lib.hid (filled_mac (k := k) (msg := msg) (N := N) (q := n % 16) (j := j) (by rw [HML.out]; omega) (by omega) (by omega) (by rw [HML.out]; have := HLj.out; omega))
      have TB : ∀ x ∈ msg ++ 128 :: List.replicate j 0, Byte x := by
        intro x hx
        rcases List.mem_append.1 hx with h1 | h1
        · exact HM.out.byte x h1
        · rcases List.mem_cons.1 h1 with rfl | h1
          · exact ⟨by decide, by decide⟩
          · rw [List.eq_of_mem_replicate h1]; exact ⟨by decide, by decide⟩
      have hTT := ints_of TB
      have YT := Lib.hid (nats_by TB)
      obtain ⟨TN, hTN⟩ : ∃ TN, TN = nats (msg ++ 128 :: List.replicate j 0) := ⟨_, rfl⟩
      have LT := Lib.hid (show TN.length = L by rw [hTN, nats_len]; exact HTl.out)
      rw [hTT, ← hTN] at HO4
      rw [← hTN] at YT HMAC
      obtain ⟨F, hF⟩ : ∃ F, F = fillF TN (oneL k) (twoL k) (16 * N) := ⟨_, rfl⟩
      rw [← hF] at HMAC
      have LF := Lib.hid (show F.length = TN.length by rw [hF]; exact fillF_len _ _ _ _)
      have YF := Lib.hid (show BY F by rw [hF]; exact fillF_by YT.out (oneL_by YK.out LK.out) (twoL_by YK.out LK.out) _)
      have HF := Lib.hid hF
      obtain ⟨mm, hmm⟩ : ∃ mm, mm = 16 * N := ⟨_, rfl⟩
      have HMM := Lib.hid hmm
      have M0 := Lib.hid (show mixP F TN mm = TN by rw [hF, hmm]; exact fillF_start (by rw [LT.out, LN.out]; omega))
      obtain ⟨gq, hA4, hgq, -, -, -⟩ := HO4.out.row (show 0 < L by rw [LN.out]; omega)
      subst hA4
      have HGQ := Lib.hid hgq
      have HO5 := Lib.hid (show Own .u8 5 wr w3.heap.size (.slice (some ⟨gq, 0, none⟩) L c4) (ints (mixP F TN mm)) by rw [M0.out]; exact HO4.out)
      have LN3 := Lib.hid (show L = mm + 16 by rw [LN.out, hmm])
      clear e hlt hN hTN hTT TB hF hmm hgq HO4 HTl hj M0 HLj P5
      go_upto_region 7 with fail
      clear e1
      go_wp2_with fail
      go_loopw [39] (fun i wx => ∃ r : Nat, r ≤ 16 ∧ i = .int .i64 (r : Int) ∧ Own .u8 5 wx w3.heap.size (.slice (some ⟨gq, 0, none⟩) L c4) (ints (mixP F TN (mm + r))) ∧ Below w3.heap.size w3 wx) (fun i _ => 16 - (intOf i).toNat)
      case atStart => exact ⟨0, by omega, rfl, HO5.out, HB4.out⟩
      case round =>
        obtain ⟨r, hr, rfl, OW, BX⟩ := hrel
        have HOW := Lib.hid OW
        have HBX := Lib.hid BX
        clear OW BX
        by_cases hr16 : r < 16
        · have hrz : (r : Int) < 16 := by omega
          obtain ⟨p, hp⟩ : ∃ p, p = mm + r := ⟨_, rfl⟩
          have hmz : (L : Int) - 16 = (mm : Int) := by have := LN3.out; omega
          have hmw : IntKind.i64.wrap (mm : Int) = (mm : Int) := IntWalk.i64_in _ (by have := LN3.out; omega)
          have hpz : (mm : Int) + (r : Int) = (p : Int) := by omega
          have hpL : (p : Int) < (L : Int) := by have := LN3.out; omega
          have hpw : IntKind.i64.wrap (p : Int) = (p : Int) := IntWalk.i64_in _ (by omega)
          obtain ⟨gq', hq', -, hqlt, hcell, hfro⟩ := HOW.out.row (show 0 < L by have := LN3.out; omega)
          obtain rfl : gq = gq' := by injection hq' with h1; injection h1
          have c0 := hcell p (by omega)
          rw [ints_at, ← hp, mixP_old LF.out (Nat.le_refl _)] at c0
          have f0 := hfro p
          have c1 := (B5.out.below HBX.out B5.out.lt).cell (j := r) (by rw [oneL_len]; exact hr16)
          have c2 := (B6.out.below HBX.out B6.out.lt).cell (j := r) (by rw [twoL_len]; exact hr16)
          have x2 := YT.out.at p
          have o2 := (oneL_by YK.out LK.out).at r
          have t2 := (twoL_by YK.out LK.out).at r
          have hv := fillF_high (T := TN) (o := oneL k) (t := twoL k) (m := 16 * N) (r := r) (by rw [LT.out, LN.out]; omega)
          rw [← HF.out, ← HMM.out, ← hp] at hv
          have hst := HOW.out.stored p ((F.getD p 0 : Nat) : Int)
          rw [ints_set, ← hp, mixP_set LF.out (by rw [LT.out]; omega)] at hst
          rw [hv] at hst
          obtain ⟨x, hx⟩ : ∃ x, x = TN.getD p 0 := ⟨_, rfl⟩
          obtain ⟨y, hy⟩ : ∃ y, y = (oneL k).getD r 0 := ⟨_, rfl⟩
          obtain ⟨z, hz⟩ : ∃ z, z = (twoL k).getD r 0 := ⟨_, rfl⟩
          rw [← hx] at c0 x2 hst
          rw [← hy] at c1 o2 hst
          rw [← hz] at c2 t2 hst
          obtain ⟨u, hu⟩ : ∃ u, u = y ^^^ z := ⟨_, rfl⟩
          obtain ⟨v, hve⟩ : ∃ v, v = x ^^^ u := ⟨_, rfl⟩
          rw [← hu, ← hve] at hst
          have hyz : bits .xor .u8 (y : Int) (z : Int) = (u : Int) := by rw [hu]; exact xor_b o2 t2
          have hxu : bits .xor .u8 (x : Int) (u : Int) = (v : Int) := by rw [hve]; exact xor_b x2 (by rw [hu]; exact xor_lt o2 t2)
          have HS := Lib.hid hst
          have HPP := Lib.hid hp
          clear hx hy hz hu hve x2 o2 t2 hst hv hcell hfro hp hq'
          go_upto_region 10 with fail
          go_still_tail 17, (by kernel_rfl)
          change wpList _ _ _ _ _ wr.drew
          go_upto_region 11 with fail
          clear c0 c1 c2 hyz hxu
          change Code.wp _ _ _ _ (wr.drew.setCell ⟨gq, p, none⟩ (.int .u8 (v : Int)))
          have OS := Lib.hid (show Own .u8 5 (wr.drew.setCell ⟨gq, p, none⟩ (.int .u8 (v : Int))) w3.heap.size (.slice (some ⟨gq, 0, none⟩) L c4) (ints (mixP F TN (mm + (r + 1)))) by
            rw [show mm + (r + 1) = p + 1 by have := HPP.out; omega]
            exact HS.out.keep fun g _ _ => rfl)
          have BS := Lib.hid (show Below w3.heap.size w3 (wr.drew.setCell ⟨gq, p, none⟩ (.int .u8 (v : Int))) from HBX.out.drew.setCell (p := ⟨gq, p, none⟩) HGQ.out _)
          generalize wr.drew.setCell ⟨gq, p, none⟩ (.int .u8 (v : Int)) = w9 at *
          clear HS f0 hmz hpz hmw hpw
          go_wp2_with fail
          go_roundw
          case rel => exact ⟨r + 1, by omega, by go_num, OS.out, BS.out⟩
          case measure => simp [intOf]; omega
        · have e : r = 16 := by omega
          subst e
          obtain ⟨w6, hw6⟩ : ∃ w6, w6 = wr := ⟨_, rfl⟩
          subst hw6
          have OF := HOW.out
          rw [show mm + 16 = TN.length by rw [LT.out, LN3.out], mixP_full LF.out] at OF
          have HOF := Lib.hid OF
          have BW6 := Lib.hid (BW3.out.trans (HBX.out.mono BW3.out.size))
          have RK := Lib.hid (show w6.heap[w.heap.size]? = some (.cells K 22 (0, 0)) by rw [HBX.out.block _ (row_lt2 RK3.out)]; exact RK3.out)
          obtain ⟨FI, hFI⟩ : ∃ FI, FI = ints F := ⟨_, rfl⟩
          have YFI := Lib.hid (show ∀ x ∈ FI, Byte x by rw [hFI]; exact ints_byte YF.out)
          have NFI := Lib.hid (show nats FI = F by rw [hFI]; exact ints_nats F)
          rw [← hFI] at HOF
          have PM1 := Lib.hid (show ∀ w', Gr w6 w' → PartAt w' w'.heap.size ⟨some ⟨gq, 0, none⟩, L, c4, FI⟩ from fun w' hG => ⟨(HOF.out.below hG).nums, (show L ≤ 10000 by omega), YFI.out, g4, (show c4 ≤ 9223372036854775807 by simpa [maxLen] using g4')⟩)
          have PM2 := Lib.hid (show ∀ w', Gr w6 w' → PartAt w' w'.heap.size ⟨A, n, c, msg⟩ from fun w' hG => (HM.out.below (BW6.out.trans (hG.mono BW6.out.size))).partAt (by omega))
          have OA := Lib.hid (show ∀ w' g, Gr w6 w' → Parts w' w'.heap.size (some ⟨g, 0, none⟩) [⟨some ⟨gq, 0, none⟩, L, c4, FI⟩] → Calls Try.prog 10 #[.agg K, .slice (some ⟨g, 0, none⟩) 1 1] w' (Ret w' (.agg X)) from fun w' g _ hP => by
            have h := mac1 hP LK.out YK.out
            rw [NFI.out, HMAC.out] at h
            rw [HK.out, HX.out]; exact h)
          have OM := Lib.hid (show ∀ w' g, Gr w6 w' → Parts w' w'.heap.size (some ⟨g, 0, none⟩) [⟨A, n, c, msg⟩] → Calls Try.prog 10 #[.agg K, .slice (some ⟨g, 0, none⟩) 1 1] w' (Ret w' (.agg X)) from fun w' g _ hP => by rw [HK.out, HX.out]; exact mac1 hP LK.out YK.out)
          clear OF HOW hFI hr16 hr
          go_upto_region 12 with fail
          refine with_act fun a0 ha0 => ?_
          have hl : FiRT.length = a0.tmps.size := by rw [ha0]; rfl
          have k1 : a0.tmps[1]?.getD undef = .slice A n c := by rw [ha0]; rfl
          have k2 : a0.tmps[2]?.getD undef = .pointer (some ⟨w.heap.size, 0, none⟩) := by rw [ha0]; rfl
          have k7 : a0.tmps[7]?.getD undef = .slice (some ⟨gq, 0, none⟩) L c4 := by rw [ha0]; rfl
          refine wp_region_vals (by kernel_rfl) FiRT (by kernel_rfl) (by kernel_rfl) hl (fun i => if i = 12 then a0.tmps[4]?.getD undef else undef) (by rw [ha0]; rfl) (Gr w6) (FiRV gq L c4 FI A n c msg K X) (gr_drew _) (FiRV.keep _ _ _ _ _ _ _ _ _ _) ⟨?_, ?_, ?_, ?_, ?_, ?_, ?_, ?_, ?_, ?_, ?_, ?_, ?_, trivial⟩ ?_
          · refine step_plain [] (by kernel_rfl) rfl fun us w' hG hV => ?_
            have o2 := (frame_old2 (us := us) (a := a0) (show (FiRT[2]?).join = none from rfl)).trans k2
            have hg1 := hG.row RK.out
            generalize frame FiRT a0 us = fr at *
            exact load_ok 22 2 rfl w.heap.size o2 _ _ (0, 0) _ hg1 Try.underlying22 rfl UK.out hG rfl
          · refine step_plain [] (by kernel_rfl) rfl fun us w' hG hV => ?_
            have o7 := (frame_old2 (us := us) (a := a0) (show (FiRT[7]?).join = none from rfl)).trans k7
            generalize frame FiRT a0 us = fr at *
            exact val_ok (v := .slice (some ⟨gq, 0, none⟩) L c4) (w' := w') (by go_simp) hG (Below.refl _ _) rfl
          · refine step_plain [1] (by kernel_rfl) rfl fun us w' hG hV => ?_
            have e1 : us 1 = .slice (some ⟨gq, 0, none⟩) L c4 := hV 1 (by simp)
            have v1 := (frame_at2 (us := us) hl (show (FiRT[61]?).join = some 1 from rfl)).trans e1
            generalize frame FiRT a0 us = fr at *
            exact val_ok (v := .slice (some ⟨w'.heap.size, 0, none⟩) 1 1) (w' := w'.alloc (.cells #[.slice (some ⟨gq, 0, none⟩) L c4] 23)) (by go_simp) (hG.below (alloc_below _ _)) (alloc_below _ _) ⟨_, rfl, parts1 (PM1.out w' hG) _⟩
          · refine step_plain [0, 2] (by kernel_rfl) rfl fun us w' hG hV => ?_
            have e0 : us 0 = .agg K := hV 0 (by simp)
            have v0 := (frame_at2 (us := us) hl (show (FiRT[60]?).join = some 0 from rfl)).trans e0
            obtain ⟨g, e2, hP⟩ : ∃ g, us 2 = .slice (some ⟨g, 0, none⟩) 1 1 ∧ Parts w' w'.heap.size (some ⟨g, 0, none⟩) [⟨some ⟨gq, 0, none⟩, L, c4, FI⟩] := hV 2 (by simp)
            have v2 := (frame_at2 (us := us) hl (show (FiRT[62]?).join = some 2 from rfl)).trans e2
            generalize frame FiRT a0 us = fr at *
            exact call_ok (f := 10) (args := #[.agg K, .slice (some ⟨g, 0, none⟩) 1 1]) (by go_simp) ((OA.out w' g hG hP).mono fun e w'' h => ⟨_, h.1, hG.below h.2, h.2, rfl⟩)
          · refine step_plain [] (by kernel_rfl) rfl fun us w' hG hV => ?_
            have o2 := (frame_old2 (us := us) (a := a0) (show (FiRT[2]?).join = none from rfl)).trans k2
            have hg1 := hG.row RK.out
            generalize frame FiRT a0 us = fr at *
            exact load_ok 22 2 rfl w.heap.size o2 _ _ (0, 0) _ hg1 Try.underlying22 rfl UK.out hG rfl
          · refine step_plain [] (by kernel_rfl) rfl fun us w' hG hV => ?_
            have o1 := (frame_old2 (us := us) (a := a0) (show (FiRT[1]?).join = none from rfl)).trans k1
            generalize frame FiRT a0 us = fr at *
            exact val_ok (v := .slice A n c) (w' := w') (by go_simp) hG (Below.refl _ _) rfl
          · refine step_plain [5] (by kernel_rfl) rfl fun us w' hG hV => ?_
            have e5 : us 5 = .slice A n c := hV 5 (by simp)
            have v5 := (frame_at2 (us := us) hl (show (FiRT[65]?).join = some 5 from rfl)).trans e5
            generalize frame FiRT a0 us = fr at *
            exact val_ok (v := .slice (some ⟨w'.heap.size, 0, none⟩) 1 1) (w' := w'.alloc (.cells #[.slice A n c] 23)) (by go_simp) (hG.below (alloc_below _ _)) (alloc_below _ _) ⟨_, rfl, parts1 (PM2.out w' hG) _⟩
          · refine step_plain [4, 6] (by kernel_rfl) rfl fun us w' hG hV => ?_
            have e4 : us 4 = .agg K := hV 4 (by simp)
            have v4 := (frame_at2 (us := us) hl (show (FiRT[64]?).join = some 4 from rfl)).trans e4
            obtain ⟨g, e6, hP⟩ : ∃ g, us 6 = .slice (some ⟨g, 0, none⟩) 1 1 ∧ Parts w' w'.heap.size (some ⟨g, 0, none⟩) [⟨A, n, c, msg⟩] := hV 6 (by simp)
            have v6 := (frame_at2 (us := us) hl (show (FiRT[66]?).join = some 6 from rfl)).trans e6
            generalize frame FiRT a0 us = fr at *
            exact call_ok (f := 10) (args := #[.agg K, .slice (some ⟨g, 0, none⟩) 1 1]) (by go_simp) ((OM.out w' g hG hP).mono fun e w'' h => ⟨_, h.1, hG.below h.2, h.2, rfl⟩)
          · refine step_plain [3, 7] (by kernel_rfl) rfl fun us w' hG hV => ?_
            have e3 : us 3 = .agg X := hV 3 (by simp)
            have v3 := (frame_at2 (us := us) hl (show (FiRT[63]?).join = some 3 from rfl)).trans e3
            have e7 : us 7 = .agg X := hV 7 (by simp)
            have v7 := (frame_at2 (us := us) hl (show (FiRT[67]?).join = some 7 from rfl)).trans e7
            have hq := EX.out w'
            have hgd := guard16
            generalize frame FiRT a0 us = fr at *
            exact val_ok (v := .bool true) (w' := w') (by go_simp) hG (Below.refl _ _) rfl
          · refine step_plain [8] (by kernel_rfl) rfl fun us w' hG hV => ?_
            have e8 : us 8 = .bool true := hV 8 (by simp)
            have v8 := (frame_at2 (us := us) hl (show (FiRT[68]?).join = some 8 from rfl)).trans e8
            generalize frame FiRT a0 us = fr at *
            exact val_ok (v := .bool true) (w' := w') (by go_simp) hG (Below.refl _ _) rfl
          · refine step_guard [9] (by kernel_rfl) (j := 9) (t := 69) (b := true) rfl (by simp) rfl hl rfl (fun v w h => h) fun us w' hG hV => ?_
            have e9 : us 9 = .bool true := hV 9 (by simp)
            have v9 := (frame_at2 (us := us) hl (show (FiRT[69]?).join = some 9 from rfl)).trans e9
            generalize frame FiRT a0 us = fr at *
            exact call_ok (f := 9) (args := #[]) (by go_simp) ((alive_any w').mono fun e w'' h => ⟨_, h.1, hG.below h.2, h.2, rfl⟩)
          · refine step_plain [9, 10] (by kernel_rfl) rfl fun us w' hG hV => ?_
            have e9 : us 9 = .bool true := hV 9 (by simp)
            have v9 := (frame_at2 (us := us) hl (show (FiRT[69]?).join = some 9 from rfl)).trans e9
            have e10 : us 10 = .bool true := hV 10 (by simp)
            have v10 := (frame_at2 (us := us) hl (show (FiRT[70]?).join = some 10 from rfl)).trans e10
            generalize frame FiRT a0 us = fr at *
            exact val_ok (v := .bool true) (w' := w') (by go_simp) hG (Below.refl _ _) rfl
          · refine step_plain [11] (by kernel_rfl) rfl fun us w' hG hV => ?_
            have e11 : us 11 = .bool true := hV 11 (by simp)
            have v11 := (frame_at2 (us := us) hl (show (FiRT[71]?).join = some 11 from rfl)).trans e11
            generalize frame FiRT a0 us = fr at *
            exact val_ok (v := .bool true) (w' := w') (by go_simp) hG (Below.refl _ _) rfl
          · intro us w' hG hV
            have eL : us 12 = .bool true := hV 12 (by decide)
            subst ha0
            simp only [frame, FiRT, fill]
            rw [eL]
            go_wp2_with fail
            go_ret
            exact ⟨rfl, BW6.out.trans (hG.mono BW6.out.size)⟩
theorem cmacfilled_walk (k : List Nat) (A : Option Addr) (n c : Nat) (msg : List Int) (w : World) (hk : k.length = 16) (yk : BY k) (hm : Key w A n c msg) :
    Calls Try.prog 6 #[.agg (vec k), .slice A n c] w (AliveRet w) := by
  have h1 := hm.cap
  have h2 := hm.max
  by_cases h : 300 < n
  · exact cmacfilled_long k A n c w (by omega) h
  · by_cases h0 : n = 0
    · subst h0
      exact cmacfilled_none k A c msg w hk yk hm
    · by_cases h16 : n % 16 = 0
      · exact cmacfilled_whole k A n c w (by omega) (by omega) h16
      · exact cmacfilled_some k A n c msg w hk yk hm (by omega) (by omega) h16
end Go.Proofs.Ytknemkekmahdmaa.aesC
