/-
  2 texts of a proof, joined.
-/
import Derived.Test.YthbgjjfhgbkbdaaMg15
import Derived.Test.YthbgjjfhgbkbdaaMg17
import Derived.Test.YthbgjjfhgbkbdaaMg10
import Derived.Test.YthbgjjfhgbkbdaaMg14

/-
  CMAC: the code's Of.
-/
namespace Go.Proofs.Ythbgjjfhgbkbdaa.aesC
open Go.ChangeShapes Go.WideShapes Go.ChangeAt Go.RowKit
open Go.Proofs.Ythbgjjfhgbkbdaa.memC Go.Proofs.Ythbgjjfhgbkbdaa.genC Go.Proofs.Ythbgjjfhgbkbdaa.aesM Go.Proofs.Ythbgjjfhgbkbdaa.butC Go.Proofs.Ythbgjjfhgbkbdaa.freeC Go.Proofs.Ythbgjjfhgbkbdaa.partsC
set_option linter.unusedVariables false
theorem built_chain {k : List Nat} (h : k.length = 16) : Try.prog.built 81 [(0, .agg (vec k))] = some (chC k (zs 16) (zs 16) 0).toArray := by
  obtain ⟨a, b, c, d, e, f, g, i, j, k, m, n, o, p, q, r, rfl⟩ := list16 h
  kernel_rfl
def zeroCh : Array Value := (chC (zs 16) (zs 16) (zs 16) 0).toArray
theorem zero_chain : ∀ w, (zeroValue 81).run Try.prog w = .ok (.agg zeroCh) w := fun w => by
  have h : (Try.prog.info? 81).map (·.zero) = some (some (.agg zeroCh)) := by kernel_rfl
  obtain ⟨i, hi, hz⟩ := Option.map_eq_some_iff.1 h
  simp [zeroValue, typeInfo, hi, hz]
theorem chC_one (k m r : List Nat) (h : Nat) : (chC k m r h).toArray.all (·.oneCell') = true := by
  rw [Array.all_eq_true_iff_forall_mem]
  intro v hv
  have hv : v ∈ chC k m r h := by simpa using hv
  unfold chC at hv
  simp only [List.mem_append, List.mem_singleton] at hv
  rcases hv with h1 | h1 | h1 | rfl
  · exact vl_one h1
  · exact vl_one h1
  · exact vl_one h1
  · rfl
theorem ChV.new {w : World} {g : Nat} {k : List Nat} (h : Chain w g k (zs 16) (zs 16) 0) : ChV w g k [] := by
  refine ⟨0, 0, rfl, by omega, fun _ => rfl, ?_⟩
  rw [blkL_none (by simp)]; exact h
theorem blk_mark {xs : List Nat} {N q : Nat} (hx : xs.length = 16 * N + q) (hq : q < 16) : (blkL xs N).set q 128 = blkL (xs ++ [128]) N := by
  refine getD_ext (by rw [List.length_set, blkL_len, blkL_len]) fun i hi => ?_
  rw [List.length_set, blkL_len] at hi
  rw [blkL_at hi]
  rcases Nat.lt_trichotomy i q with h1 | h1 | h1
  · rw [List.getD_eq_getElem?_getD, List.getElem?_set_ne (by omega), ← List.getD_eq_getElem?_getD, blkL_at hi, getD_left (by omega)]
  · subst h1
    rw [List.getD_eq_getElem?_getD, List.getElem?_set_self (by rw [blkL_len]; exact hi), getD_right (by omega), hx, Nat.sub_self]
    rfl
  · rw [List.getD_eq_getElem?_getD, List.getElem?_set_ne (by omega), ← List.getD_eq_getElem?_getD, blkL_at hi, getD_out (by omega), getD_out (by rw [List.length_append]; simp; omega)]
theorem Chain.putByte {w : World} {g : Nat} {k m r : List Nat} {h : Nat} (H : Chain w g k m r h) {q : Nat} (hq : q < 16) (x : Nat) : Chain (w.setCell ⟨g, 32 + q, none⟩ (.int .u8 (x : Int))) g k m (r.set q x) h := by
  refine ⟨?_, H.lk, H.lm, by rw [List.length_set]; exact H.lr⟩
  rw [heap_setCell_same w g (32 + q) _ _ _ H.row]
  congr 2
  have l0 : (vl k ++ vl m).length = 32 := by rw [List.length_append, vl_len, vl_len, H.lk, H.lm]
  have e : (chC k m r h).set (32 + q) (.int .u8 (x : Int)) = chC k m (r.set q x) h := by
    rw [chC_rest, chC_rest, List.set_append_right _ _ (by omega), l0, show 32 + q - 32 = q by omega, List.set_append_left _ _ (by rw [vl_len, H.lr]; exact hq)]
    unfold vl
    rw [List.map_set]
  rw [← e]; simp
/-- while parts are put behind -/
structure PR (w : World) (g : Nat) (k xs : List Nat) (wr : World) : Prop where
  ch : ChV wr g k xs
  k0 : Bl 32 wr w.heap.size k
  out : Bl 32 wr (w.heap.size + 1) (zs 16)
  bel : Below w.heap.size w wr
  lt : w.heap.size + 1 < g
theorem But.bl {k : Nat} {w w1 : World} {T : TypeId} {g : Nat} {xs : List Nat} (h : But k w w1) (hx : Bl T w g xs) (hg : g ≠ k) : Bl T w1 g xs := ⟨by rw [h.block g hx.lt hg]; exact hx.row⟩
theorem PR.next {w wr w' : World} {g : Nat} {k xs ys : List Nat} (D : PR w g k xs wr) (S : ChV w' g k ys) (B : But g wr w') : PR w g k ys w' := by
  have h := D.lt
  exact ⟨S, But.bl B D.k0 (by omega), But.bl B D.out (by omega), D.bel.trans (B.to_below (by omega) D.bel.size), D.lt⟩
/-- behind the parts: the two blocks, and what the last one is turned by -/
structure FR (w : World) (g g9 g10 : Nat) (k m r : List Nat) (q : Nat) (b : List Nat) (wr : World) : Prop where
  ch : Chain wr g k m r q
  b9 : Bl 32 wr g9 (twoL k)
  b10 : Bl 32 wr g10 b
  out : Bl 32 wr (w.heap.size + 1) (zs 16)
  bel : Below w.heap.size w wr
  l1 : w.heap.size + 1 < g
  l2 : g < g9
  l3 : g9 < g10
section
variable {w wr w' : World} {g g9 g10 q : Nat} {k m r b m' r' b' : List Nat} {q' : Nat}
theorem FR.next (D : FR w g g9 g10 k m r q b wr) (S : Chain w' g k m' r' q') (B : But g wr w') : FR w g g9 g10 k m' r' q' b w' := by
  have h1 := D.l1
  have h2 := D.l2
  have h3 := D.l3
  exact ⟨S, But.bl B D.b9 (by omega), But.bl B D.b10 (by omega), But.bl B D.out (by omega), D.bel.trans (B.to_below (by omega) D.bel.size), h1, h2, h3⟩
theorem FR.below (D : FR w g g9 g10 k m r q b wr) (B : Below wr.heap.size wr w') : FR w g g9 g10 k m r q b w' := D.next (D.ch.below B D.ch.lt) (But.below B)
theorem FR.put (D : FR w g g9 g10 k m r q b wr) : FR w g g9 g10 k m r q b' (wr.setRow g10 (vec b')) := by
  have h1 := D.l1
  have h2 := D.l2
  have h3 := D.l3
  exact ⟨⟨by rw [setRow_other _ _ _ _ (by omega)]; exact D.ch.row, D.ch.lk, D.ch.lm, D.ch.lr⟩, D.b9.row_other (by omega) _, D.b10.setRow, D.out.row_other (by omega) _, below_setRow D.bel (by omega) _, h1, h2, h3⟩
end
set_option maxRecDepth 100000 in
set_option maxHeartbeats 1000000 in
theorem cof_any (P : Option Addr) (m c : Nat) (ps : List Part) (k : List Nat) (w : World) (hp : Parts w w.heap.size P ps) (hl : ps.length = m) (hm : m ≤ 100) (hk : k.length = 16) (yk : BY k) :
    Calls Try.prog 22 #[.agg (vec k), .slice P m c] w (Ret w (.agg (vec (macL k (nats (catL ps)))))) := by
  obtain ⟨X, hX⟩ : ∃ X, X = vec k := ⟨_, rfl⟩
  obtain ⟨Z, hZ⟩ : ∃ Z, Z = vec (zs 16) := ⟨_, rfl⟩
  obtain ⟨Z2, hZ2⟩ : ∃ Z, Z = zeroCh := ⟨_, rfl⟩
  obtain ⟨C0, hC0⟩ : ∃ C0, C0 = (chC k (zs 16) (zs 16) 0).toArray := ⟨_, rfl⟩
  obtain ⟨O, hO⟩ : ∃ O, O = vec (oneL k) := ⟨_, rfl⟩
  obtain ⟨T, hT⟩ : ∃ T, T = vec (twoL k) := ⟨_, rfl⟩
  have hzv := zero16
  rw [← hZ] at hzv
  have hzv2 := zero_chain
  rw [← hZ2] at hzv2
  have HPT := Lib.hid hp
  have HL := Lib.hid hl
  have HK := Lib.hid hk
  have YK := Lib.hid yk
  have NW := Lib.hid (fun w => new_any k w hk)
  rw [← hX] at NW
  have BC := Lib.hid (built_chain hk)
  rw [← hX, ← hC0] at BC
  have CB := Lib.hid (fun w => cblocks_any k w hk yk)
  rw [← hX, ← hO, ← hT] at CB
  have UX := Lib.hid (show (Try.prog.info? 32).map (·.size) = some X.size by rw [hX]; exact vec_info hk)
  have UC := Lib.hid (show (Try.prog.info? 81).map (·.size) = some C0.size by rw [hC0, chain_info, List.size_toArray, chC_len hk (zs_len 16) (zs_len 16)])
  have ZC := Lib.hid (show Z2.size = C0.size by rw [hZ2, hC0]; unfold zeroCh; rw [List.size_toArray, List.size_toArray, chC_len hk (zs_len 16) (zs_len 16), chC_len (zs_len 16) (zs_len 16) (zs_len 16)])
  have OC := Lib.hid (show C0.all (·.oneCell') = true by rw [hC0]; exact chC_one _ _ _ _)
  have UO := Lib.hid (show (Try.prog.info? 32).map (·.size) = some O.size by rw [hO]; exact vec_info (oneL_len _))
  have UT := Lib.hid (show (Try.prog.info? 32).map (·.size) = some T.size by rw [hT]; exact vec_info (twoL_len _))
  have OO := Lib.hid (show O.all (·.oneCell') = true by rw [hO]; exact vec_one _)
  have OT := Lib.hid (show T.all (·.oneCell') = true by rw [hT]; exact vec_one _)
  have ZO := Lib.hid (show Z.size = O.size by rw [hZ, hO, vec_size, vec_size, zs_len, oneL_len])
  have ZT := Lib.hid (show Z.size = T.size by rw [hZ, hT, vec_size, vec_size, zs_len, twoL_len])
  have OTS := Lib.hid (show O.size = T.size by rw [hO, hT, vec_size, vec_size, oneL_len, twoL_len])
  have HO := Lib.hid hO
  have HT := Lib.hid hT
  have HX := Lib.hid hX
  have HC0 := Lib.hid hC0
  have e1 : (w.alloc (.cells X 32)).heap.size = w.heap.size + 1 := alloc_size _ _
  obtain ⟨W, hW⟩ : ∃ W, W = (w.alloc (.cells X 32)).alloc (.cells Z 32) := ⟨_, rfl⟩
  have EW := Lib.hid (show W.heap.size = w.heap.size + 1 + 1 by rw [hW, alloc_size, e1])
  have K0 := Lib.hid (show Bl 32 W w.heap.size k by rw [hW, hX]; exact (Bl.new w _ k).alloc _)
  have OU := Lib.hid (show Bl 32 W (w.heap.size + 1) (zs 16) by rw [hW, hZ, ← e1]; exact Bl.new _ _ _)
  have BW := Lib.hid (show Below w.heap.size w W by rw [hW]; exact ((Below.refl _ _).alloc (Nat.le_refl _) _).alloc (by simp) _)
  have R0 := Lib.hid (hX ▸ K0.out.row : W.heap[w.heap.size]? = some (.cells X 32 (0, 0)))
  obtain ⟨xs, hxs⟩ : ∃ xs, xs = nats (catL ps) := ⟨_, rfl⟩
  obtain ⟨VM, hVM⟩ : ∃ V, V = vec (macL k xs) := ⟨_, rfl⟩
  rw [← hX, ← hxs, ← hVM]
  have HXS := Lib.hid hxs
  have HVM := Lib.hid hVM.symm
  clear hxs hVM
  have hm2 : m ≤ 9223372036854775807 := by omega
  clear hX hZ hZ2 hC0 hO hT hp hl e1 hm hk yk
  go_enter Try.func22, Try.ntmps22
  go_upto_region 1 with fail
  rw [← hW]
  clear hW
  go_upto_region 2 with (first
    | (refine wpList_load_row rfl 32 (.tmp 2) rfl w.heap.size rfl _ _ _ _ R0.out Try.underlying32 rfl UX.out ?_)
    | (go_at_call 39; (with_reducible refine (NW.out _).mono ?_); rintro e w1 ⟨rfl, B1⟩)
    | (refine wpList_built rfl 81 0 (.tmp 12) rfl (.agg X) rfl C0 BC.out ?_)
    | (refine wpList_store_row rfl 81 (.tmp 5) (.tmp 13) rfl w1.heap.size _ rfl rfl _ _ (heap_alloc_new _ _) UC.out ZC.out OC.out ?_))
  rw [World.setRow_alloc_new]
  have P1 : PR w w1.heap.size k (nats (catL (ps.take 0))) (w1.alloc (.cells C0 81)) := by
    have hs := B1.size
    have h1 := EW.out
    refine ⟨ChV.new ⟨?_, HK.out, zs_len 16, zs_len 16⟩, (K0.out.below B1 K0.out.lt).alloc _, (OU.out.below B1 OU.out.lt).alloc _, (BW.out.trans (B1.mono (by omega))).alloc (by omega) _, by omega⟩
    rw [HC0.out]; exact heap_alloc_new _ _
  generalize w1.alloc (.cells C0 81) = w2 at *
  generalize w1.heap.size = g at *
  have HP1 := Lib.hid P1
  clear P1 B1 hzv2 NW BC UC ZC OC HC0 EW K0 OU BW R0
  go_wp2_with fail
  go_loopw [16] (fun i wr => ∃ j : Nat, j ≤ m ∧ i = .int .i64 j ∧ PR w g k (nats (catL (ps.take j))) wr) (fun i _ => m - (intOf i).toNat)
  case atStart => exact ⟨0, by omega, rfl, HP1.out⟩
  case round =>
    obtain ⟨j, hj, rfl, PP⟩ := hrel
    have HPP := Lib.hid PP
    by_cases hlt : j < m
    · have hlp : j < ps.length := by rw [HL.out]; exact hlt
      have PB := HPT.out.below PP.bel (Nat.le_refl _)
      obtain ⟨b, o, rfl, hbb, hc, hpa⟩ := PB.cell hlp
      have hjz : (j : Int) < (m : Int) := by omega
      have hs := catL_snoc ps j hlp
      have TK := Lib.hid (take_any g k (nats (catL (ps.take j))) ps[j].bs ps[j].A ps[j].n ps[j].c wr PP.ch (hpa.nums.more PP.bel.size) (off_below hpa.nums (by have := PP.lt; omega)) hpa.cap hpa.max YK.out (nats_by (catL_byte (w := w) (B := w.heap.size) fun p hp => HPT.out.all p (List.mem_of_mem_take hp))) hpa.byte)
      rw [← nats_app, ← hs] at TK
      have HS := Lib.hid hs
      generalize ps[j].A = pA at *
      generalize ps[j].n = pn at *
      generalize ps[j].c = pc at *
      clear hs PB hpa PP
      go_wp2_with (first
        | (go_at_call 40; (with_reducible refine TK.out.mono ?_); rintro e w4 ⟨rfl, S4, B4⟩
           have P4 := Lib.hid (HPP.out.next S4 B4)
           clear S4 B4))
      clear hc
      go_roundw
      case rel => exact ⟨j + 1, by omega, by go_num, P4.out⟩
      case measure => simp [intOf]; omega
    · have e : j = m := by omega
      subst e
      have hF : catL (ps.take j) = catL ps := by rw [List.take_of_length_le (by rw [HL.out]; exact Nat.le_refl _)]
      rw [hF] at PP
      have YX := Lib.hid (nats_by (catL_byte (w := w) (B := w.heap.size) (ps := ps) HPT.out.all))
      rw [← HXS.out] at PP YX
      have G1 := Lib.hid (HX.out ▸ PP.k0.row : wr.heap[w.heap.size]? = some (.cells X 32 (0, 0)))
      obtain ⟨N, q, hlen, hq16, hq0, CC⟩ := PP.ch
      have HQ := Lib.hid PP
      have HC := Lib.hid CC
      have HLen := Lib.hid hlen
      have HQ0 := Lib.hid hq0
      clear hF hlt hj PP HPP CC hlen hq0 HPT HL
      go_upto_region 8 with (first
        | (refine wpList_load_row rfl 32 (.tmp 2) rfl w.heap.size rfl _ _ _ _ G1.out Try.underlying32 rfl UX.out ?_)
        | (go_at_call 41; (with_reducible refine (CB.out _).mono ?_); rintro e w5 ⟨rfl, B5⟩
           have r8 : ((w5.alloc (.cells Z 32)).alloc (.cells Z 32)).heap[w5.heap.size]? = some (.cells Z 32 (0, 0)) := by
             rw [Below.block (alloc_below _ _) _ (by rw [alloc_size]; omega)]; exact heap_alloc_new _ _
           have r9 : (((w5.alloc (.cells Z 32)).alloc (.cells Z 32)).setRow w5.heap.size O).heap[w5.heap.size + 1]? = some (.cells Z 32 (0, 0)) := by
             rw [setRow_other _ _ _ _ (by omega), ← alloc_size w5 (.cells Z 32)]; exact heap_alloc_new _ _
           have R8 := Lib.hid r8
           have R9 := Lib.hid r9
           have s7 : (((w5.alloc (.cells Z 32)).alloc (.cells Z 32)).setRow w5.heap.size O).heap.size = w5.heap.size + 1 + 1 := by simp
           have b7 : Below w5.heap.size w5 (((w5.alloc (.cells Z 32)).alloc (.cells Z 32)).setRow w5.heap.size O) := below_setRow (((Below.refl _ _).alloc (Nat.le_refl _) _).alloc (by simp) _) (Nat.le_refl _) _
           have S7 := Lib.hid s7
           have B7 := Lib.hid b7
           have Q8 := Lib.hid (setRow_heap _ _ _ O _ _ r8)
           clear r8 r9 s7 b7)
        | (refine wpList_store_row rfl 32 (.tmp 8) (.tmp 26) rfl w5.heap.size _ rfl rfl _ _ R8.out UO.out ZO.out OO.out ?_)
        | (refine wpList_store_row rfl 32 (.tmp 9) (.tmp 27) rfl (w5.heap.size + 1) _ rfl rfl _ _ R9.out UT.out ZT.out OT.out ?_))
      have Q9 := Lib.hid (setRow_heap _ _ _ T _ _ R9.out)
      have Q82 := Lib.hid (show ((((w5.alloc (.cells Z 32)).alloc (.cells Z 32)).setRow w5.heap.size O).setRow (w5.heap.size + 1) T).heap[w5.heap.size]? = some (.cells O 32 (0, 0)) by
        rw [setRow_other _ _ _ _ (by omega)]; exact Q8.out)
      have S72 := Lib.hid (show ((((w5.alloc (.cells Z 32)).alloc (.cells Z 32)).setRow w5.heap.size O).setRow (w5.heap.size + 1) T).heap.size = w5.heap.size + 1 + 1 by rw [← S7.out]; simp)
      have B72 := Lib.hid (below_setRow (k := w5.heap.size + 1) B7.out (by omega) T)
      clear R8 R9 Q8 S7 B7 G1
      generalize (((w5.alloc (.cells Z 32)).alloc (.cells Z 32)).setRow w5.heap.size O).setRow (w5.heap.size + 1) T = w7 at *
      have L5 := Lib.hid B5.size
      have HB5 := Lib.hid B5
      clear B5
      go_upto_region 9 with (first
        | (refine wpList_load_row rfl 32 (.tmp 8) rfl w5.heap.size rfl _ _ _ _ Q82.out Try.underlying32 rfl UO.out ?_)
        | (refine wpList_store_row rfl 32 (.tmp 10) (.tmp 28) rfl w7.heap.size _ rfl rfl _ _ (heap_alloc_new _ _) UO.out ZO.out OO.out ?_))
      rw [World.setRow_alloc_new]
      have F8 : FR w g (w5.heap.size + 1) w7.heap.size k (cbc k xs N) (blkL xs N) q (oneL k) (w7.alloc (.cells O 32)) := by
        have hg := HC.out.lt
        have h5 := L5.out
        have h7 := S72.out
        have hq := HQ.out.lt
        have b57 : Below wr.heap.size wr w7 := HB5.out.trans (B72.out.mono h5)
        refine ⟨(HC.out.below b57 hg).below (alloc_below _ _) (by omega), Bl.alloc ⟨?_⟩ _, ?_, (HQ.out.out.below b57 HQ.out.out.lt).alloc _, (HQ.out.bel.trans (b57.mono HQ.out.bel.size)).alloc (by have := HQ.out.bel.size; omega) _, hq, by omega, by omega⟩
        · rw [← HT.out]; exact Q9.out
        · rw [HO.out]; exact Bl.new _ _ _
      generalize w7.alloc (.cells O 32) = w8 at *
      generalize w7.heap.size = g10 at *
      generalize w5.heap.size + 1 = g9 at *
      generalize w5.heap.size = g8 at *
      have H8 := Lib.hid F8
      have cn := F8.ch.has
      clear F8 Q9 Q82 S72 B72 L5 HB5 hzv HC HQ CB UX OO ZO
      by_cases hf : q = 16
      · have hqz : ¬ ((q : Int) < 16) := by omega
        have HM := Lib.hid (macL_whole (k := k) (bs := xs) (n := N) (by rw [HLen.out, hf]))
        have YR := Lib.hid (blkL_by YX.out N)
        have YB := Lib.hid (oneL_by YK.out HK.out)
        have LB := Lib.hid (oneL_len k)
        obtain ⟨B, hB⟩ : ∃ B, B = oneL k := ⟨_, rfl⟩
        obtain ⟨R, hR⟩ : ∃ R, R = blkL xs N := ⟨_, rfl⟩
        rw [← hB] at H8 HM YB LB
        rw [← hR] at H8 HM YR
        have F12 := H8
        clear hf hB hR H8
        go_upto_region 12 with fail
        clear hqz cn
        have LR := Lib.hid F12.out.ch.lr
        have LM := Lib.hid F12.out.ch.lm
        have CT := Lib.hid (fun w => cturn_any R B w LR.out LB.out YR.out YB.out)
        have YM := Lib.hid (cbc_by YK.out HK.out xs N)
        have UR := Lib.hid (vec_info LR.out)
        have UB := Lib.hid (vec_info LB.out)
        have UV := Lib.hid (vec_info (xorL_len R B))
        have OV := Lib.hid (vec_one (xorL R B))
        have SV := Lib.hid (show (vec (xorL R B)).size = 16 by rw [vec_size, xorL_len])
        have NV := Lib.hid (put_rest (k := k) (m := cbc k xs N) (r := R) HK.out LM.out LR.out (xorL_len R B) q)
        obtain ⟨VR, hVR⟩ : ∃ V, V = vec R := ⟨_, rfl⟩
        obtain ⟨VB, hVB⟩ : ∃ V, V = vec B := ⟨_, rfl⟩
        obtain ⟨VV, hVV⟩ : ∃ V, V = vec (xorL R B) := ⟨_, rfl⟩
        have PR0 := Lib.hid (show ∀ i v, VR[i]? = some v → w8.cell? ⟨g, 32 + i, none⟩ = some v from fun i v hv => F12.out.ch.rest i v (by rw [← hVR]; exact hv))
        have RB := Lib.hid (hVB ▸ F12.out.b10.row : w8.heap[g10]? = some (.cells VB 32 (0, 0)))
        rw [← hVR] at CT UR
        rw [← hVB] at CT UB
        rw [← hVV] at CT UV OV SV NV
        clear hVR hVB hVV
        go_upto_region 13 with (first
          | (refine wpList_load_piece rfl 32 (.tmp 37) rfl g 32 rfl VR _ PR0.out Try.underlying32 rfl UR.out ?_)
          | (refine wpList_load_row rfl 32 (.tmp 10) rfl g10 rfl _ _ _ _ RB.out Try.underlying32 rfl UB.out ?_)
          | (go_at_call 42; (with_reducible refine (CT.out _).mono ?_); rintro e w13 ⟨rfl, B13⟩
             have F13 := Lib.hid (F12.out.below B13)
             clear B13
             have R13 := Lib.hid F13.out.ch.row
             have SZ := Lib.hid (show 32 + VV.size ≤ (chC k (cbc k xs N) R q).toArray.size by rw [SV.out, List.size_toArray, chC_len HK.out LM.out LR.out]; decide))
          | (refine wpList_store_piece rfl 32 (.tmp 41) (.tmp 40) rfl g 32 VV rfl rfl _ _ R13.out UV.out SZ.out OV.out _ NV.out ?_))
        have F14 := Lib.hid (F13.out.next (F13.out.ch.putRest (xorL_len R B)) ((But.refl _).setRow (chC k (cbc k xs N) (xorL R B) q).toArray))
        clear R13 SZ F13 PR0 RB CT NV
        generalize w13.setRow g (chC k (cbc k xs N) (xorL R B) q).toArray = w14 at *
        have MX := Lib.hid (mix_any g k (cbc k xs N) (xorL R B) q w14 F14.out.ch YK.out YM.out (xorL_by YR.out YB.out))
        have LMac := macL_len k xs
        have UM := Lib.hid (vec_info LMac)
        have OM := Lib.hid (vec_one (macL k xs))
        have ZM := Lib.hid (show (vec (zs 16)).size = (vec (macL k xs)).size by rw [vec_size, vec_size, LMac, zs_len])
        clear LMac
        go_upto_region 14 with (first
          | (go_at_call 43; (with_reducible refine MX.out.mono ?_); rintro e w15 ⟨rfl, D15⟩))
        have F15 := Lib.hid (F14.out.next D15.ch D15.but)
        clear D15 MX F14
        rw [← HM.out] at F15
        have PM := Lib.hid (show ∀ i v, VM[i]? = some v → w15.cell? ⟨g, 16 + i, none⟩ = some v from fun i v hv => F15.out.ch.mac i v (by rw [HVM.out]; exact hv))
        have RO := Lib.hid F15.out.out.row
        have BQ := Lib.hid F15.out.bel
        rw [HVM.out] at UM OM ZM
        clear F15 HM
        go_wp2_with (first
          | (refine wpList_load_piece rfl 32 (.tmp 43) rfl g 16 rfl VM _ PM.out Try.underlying32 rfl UM.out ?_)
          | (refine wpList_store_row rfl 32 (.tmp 4) (.tmp 44) rfl (w.heap.size + 1) _ rfl rfl _ _ RO.out UM.out ZM.out OM.out ?_))
        refine bodyPost_ret (v := .agg VM) (results_cell_row Try.results22 _ _ (w.heap.size + 1) _ _ _ _ (by rfl) (setRow_heap _ _ _ _ _ _ RO.out) Try.underlying32 rfl UM.out) rfl ⟨rfl, ?_⟩
        exact below_setRow BQ.out (by omega) _
      · have hqlt : q < 16 := by omega
        have hqz : (q : Int) < 16 := by omega
        have HM := Lib.hid (macL_part (k := k) (bs := xs) (n := N) HLen.out hqlt HQ0.out)
        have YR := Lib.hid (blkL_by (show BY (xs ++ [128]) from fun z hz => by
          rcases List.mem_append.1 hz with h1 | h1
          · exact YX.out z h1
          · rw [List.mem_singleton.1 h1]; decide) N)
        have YB := Lib.hid (twoL_by YK.out HK.out)
        have LB := Lib.hid (twoL_len k)
        have S1 := H8.out.ch.putByte hqlt 128
        rw [blk_mark HLen.out hqlt] at S1
        have f1 := H8.out.ch.frozen (32 + q)
        have F10 := Lib.hid (H8.out.next S1 ((But.refl _).setCell _ _))
        have cr := H8.out.ch.rest q _ (vec_at (by rw [H8.out.ch.lr]; exact hqlt))
        go_upto_region 11 with fail
        change Code.wp _ _ _ _ (w8.setCell ⟨g, 32 + q, none⟩ (.int .u8 ((128 : Nat) : Int)))
        generalize w8.setCell ⟨g, 32 + q, none⟩ (.int .u8 ((128 : Nat) : Int)) = w10 at *
        clear S1 f1 cn hqz cr
        have r9 := F10.out.b9.row
        have r10 := F10.out.b10.row
        rw [← HT.out] at r9
        rw [← HO.out] at r10
        have R9 := Lib.hid r9
        have R10 := Lib.hid r10
        clear r9 r10 hf
        go_upto_region 12 with (first
          | (refine wpList_load_row rfl 32 (.tmp 9) rfl g9 rfl _ _ _ _ R9.out Try.underlying32 rfl UT.out ?_)
          | (refine wpList_store_row rfl 32 (.tmp 10) (.tmp 36) rfl g10 _ rfl rfl _ _ R10.out UT.out OTS.out OT.out ?_))
        have F12 : Hid (FR w g g9 g10 k (cbc k xs N) (blkL (xs ++ [128]) N) q (twoL k) (w10.setRow g10 T)) := Lib.hid (by rw [HT.out]; exact F10.out.put)
        clear R9 R10 F10 H8
        generalize w10.setRow g10 T = w12 at *
        obtain ⟨B, hB⟩ : ∃ B, B = twoL k := ⟨_, rfl⟩
        obtain ⟨R, hR⟩ : ∃ R, R = blkL (xs ++ [128]) N := ⟨_, rfl⟩
        rw [← hB] at F12 HM YB LB
        rw [← hR] at F12 HM YR
        clear hB hR
        have LR := Lib.hid F12.out.ch.lr
        have LM := Lib.hid F12.out.ch.lm
        have CT := Lib.hid (fun w => cturn_any R B w LR.out LB.out YR.out YB.out)
        have YM := Lib.hid (cbc_by YK.out HK.out xs N)
        have UR := Lib.hid (vec_info LR.out)
        have UB := Lib.hid (vec_info LB.out)
        have UV := Lib.hid (vec_info (xorL_len R B))
        have OV := Lib.hid (vec_one (xorL R B))
        have SV := Lib.hid (show (vec (xorL R B)).size = 16 by rw [vec_size, xorL_len])
        have NV := Lib.hid (put_rest (k := k) (m := cbc k xs N) (r := R) HK.out LM.out LR.out (xorL_len R B) q)
        obtain ⟨VR, hVR⟩ : ∃ V, V = vec R := ⟨_, rfl⟩
        obtain ⟨VB, hVB⟩ : ∃ V, V = vec B := ⟨_, rfl⟩
        obtain ⟨VV, hVV⟩ : ∃ V, V = vec (xorL R B) := ⟨_, rfl⟩
        have PR0 := Lib.hid (show ∀ i v, VR[i]? = some v → w12.cell? ⟨g, 32 + i, none⟩ = some v from fun i v hv => F12.out.ch.rest i v (by rw [← hVR]; exact hv))
        have RB := Lib.hid (hVB ▸ F12.out.b10.row : w12.heap[g10]? = some (.cells VB 32 (0, 0)))
        rw [← hVR] at CT UR
        rw [← hVB] at CT UB
        rw [← hVV] at CT UV OV SV NV
        clear hVR hVB hVV
        go_upto_region 13 with (first
          | (refine wpList_load_piece rfl 32 (.tmp 37) rfl g 32 rfl VR _ PR0.out Try.underlying32 rfl UR.out ?_)
          | (refine wpList_load_row rfl 32 (.tmp 10) rfl g10 rfl _ _ _ _ RB.out Try.underlying32 rfl UB.out ?_)
          | (go_at_call 42; (with_reducible refine (CT.out _).mono ?_); rintro e w13 ⟨rfl, B13⟩
             have F13 := Lib.hid (F12.out.below B13)
             clear B13
             have R13 := Lib.hid F13.out.ch.row
             have SZ := Lib.hid (show 32 + VV.size ≤ (chC k (cbc k xs N) R q).toArray.size by rw [SV.out, List.size_toArray, chC_len HK.out LM.out LR.out]; decide))
          | (refine wpList_store_piece rfl 32 (.tmp 41) (.tmp 40) rfl g 32 VV rfl rfl _ _ R13.out UV.out SZ.out OV.out _ NV.out ?_))
        have F14 := Lib.hid (F13.out.next (F13.out.ch.putRest (xorL_len R B)) ((But.refl _).setRow (chC k (cbc k xs N) (xorL R B) q).toArray))
        clear R13 SZ F13 PR0 RB CT NV
        generalize w13.setRow g (chC k (cbc k xs N) (xorL R B) q).toArray = w14 at *
        have MX := Lib.hid (mix_any g k (cbc k xs N) (xorL R B) q w14 F14.out.ch YK.out YM.out (xorL_by YR.out YB.out))
        have LMac := macL_len k xs
        have UM := Lib.hid (vec_info LMac)
        have OM := Lib.hid (vec_one (macL k xs))
        have ZM := Lib.hid (show (vec (zs 16)).size = (vec (macL k xs)).size by rw [vec_size, vec_size, LMac, zs_len])
        clear LMac
        go_upto_region 14 with (first
          | (go_at_call 43; (with_reducible refine MX.out.mono ?_); rintro e w15 ⟨rfl, D15⟩))
        have F15 := Lib.hid (F14.out.next D15.ch D15.but)
        clear D15 MX F14
        rw [← HM.out] at F15
        have PM := Lib.hid (show ∀ i v, VM[i]? = some v → w15.cell? ⟨g, 16 + i, none⟩ = some v from fun i v hv => F15.out.ch.mac i v (by rw [HVM.out]; exact hv))
        have RO := Lib.hid F15.out.out.row
        have BQ := Lib.hid F15.out.bel
        rw [HVM.out] at UM OM ZM
        clear F15 HM
        go_wp2_with (first
          | (refine wpList_load_piece rfl 32 (.tmp 43) rfl g 16 rfl VM _ PM.out Try.underlying32 rfl UM.out ?_)
          | (refine wpList_store_row rfl 32 (.tmp 4) (.tmp 44) rfl (w.heap.size + 1) _ rfl rfl _ _ RO.out UM.out ZM.out OM.out ?_))
        refine bodyPost_ret (v := .agg VM) (results_cell_row Try.results22 _ _ (w.heap.size + 1) _ _ _ _ (by rfl) (setRow_heap _ _ _ _ _ _ RO.out) Try.underlying32 rfl UM.out) rfl ⟨rfl, ?_⟩
        exact below_setRow BQ.out (by omega) _
end Go.Proofs.Ythbgjjfhgbkbdaa.aesC

/-
  CMAC: a MAC that is known.
-/
namespace Go.Proofs.Ythbgjjfhgbkbdaa.aesC
open Go.Proofs.Ythbgjjfhgbkbdaa.genC Go.Proofs.Ythbgjjfhgbkbdaa.aesM
set_option linter.unusedVariables false
set_option maxRecDepth 10000
def keyK : List Nat := [43, 126, 21, 22, 40, 174, 210, 166, 171, 247, 21, 136, 9, 207, 79, 60]
def blkK : List Nat := [119, 221, 172, 48, 106, 226, 102, 204, 249, 11, 193, 30, 228, 109, 81, 59]
theorem nk0 : nxt [43, 126, 21, 22, 40, 174, 210, 166, 171, 247, 21, 136, 9, 207, 79, 60] 1 = [160, 250, 254, 23, 136, 84, 44, 177, 35, 163, 57, 57, 42, 108, 118, 5] := by decide +kernel
theorem nk1 : nxt [160, 250, 254, 23, 136, 84, 44, 177, 35, 163, 57, 57, 42, 108, 118, 5] 2 = [242, 194, 149, 242, 122, 150, 185, 67, 89, 53, 128, 122, 115, 89, 246, 127] := by decide +kernel
theorem nk2 : nxt [242, 194, 149, 242, 122, 150, 185, 67, 89, 53, 128, 122, 115, 89, 246, 127] 4 = [61, 128, 71, 125, 71, 22, 254, 62, 30, 35, 126, 68, 109, 122, 136, 59] := by decide +kernel
theorem nk3 : nxt [61, 128, 71, 125, 71, 22, 254, 62, 30, 35, 126, 68, 109, 122, 136, 59] 8 = [239, 68, 165, 65, 168, 82, 91, 127, 182, 113, 37, 59, 219, 11, 173, 0] := by decide +kernel
theorem nk4 : nxt [239, 68, 165, 65, 168, 82, 91, 127, 182, 113, 37, 59, 219, 11, 173, 0] 16 = [212, 209, 198, 248, 124, 131, 157, 135, 202, 242, 184, 188, 17, 249, 21, 188] := by decide +kernel
theorem nk5 : nxt [212, 209, 198, 248, 124, 131, 157, 135, 202, 242, 184, 188, 17, 249, 21, 188] 32 = [109, 136, 163, 122, 17, 11, 62, 253, 219, 249, 134, 65, 202, 0, 147, 253] := by decide +kernel
theorem nk6 : nxt [109, 136, 163, 122, 17, 11, 62, 253, 219, 249, 134, 65, 202, 0, 147, 253] 64 = [78, 84, 247, 14, 95, 95, 201, 243, 132, 166, 79, 178, 78, 166, 220, 79] := by decide +kernel
theorem nk7 : nxt [78, 84, 247, 14, 95, 95, 201, 243, 132, 166, 79, 178, 78, 166, 220, 79] 128 = [234, 210, 115, 33, 181, 141, 186, 210, 49, 43, 245, 96, 127, 141, 41, 47] := by decide +kernel
theorem nk8 : nxt [234, 210, 115, 33, 181, 141, 186, 210, 49, 43, 245, 96, 127, 141, 41, 47] 27 = [172, 119, 102, 243, 25, 250, 220, 33, 40, 209, 41, 65, 87, 92, 0, 110] := by decide +kernel
theorem nk9 : nxt [172, 119, 102, 243, 25, 250, 220, 33, 40, 209, 41, 65, 87, 92, 0, 110] 54 = [208, 20, 249, 168, 201, 238, 37, 137, 225, 63, 12, 200, 182, 99, 12, 166] := by decide +kernel
theorem rkk1 : rk keyK 1 = [160, 250, 254, 23, 136, 84, 44, 177, 35, 163, 57, 57, 42, 108, 118, 5] := by
  show nxt (rk keyK 0) (rc 0) = _
  rw [show rk keyK 0 = [43, 126, 21, 22, 40, 174, 210, 166, 171, 247, 21, 136, 9, 207, 79, 60] from rfl, show rc 0 = 1 by decide]; exact nk0
theorem rkk2 : rk keyK 2 = [242, 194, 149, 242, 122, 150, 185, 67, 89, 53, 128, 122, 115, 89, 246, 127] := by
  show nxt (rk keyK 1) (rc 1) = _
  rw [rkk1, show rc 1 = 2 by decide]; exact nk1
theorem rkk3 : rk keyK 3 = [61, 128, 71, 125, 71, 22, 254, 62, 30, 35, 126, 68, 109, 122, 136, 59] := by
  show nxt (rk keyK 2) (rc 2) = _
  rw [rkk2, show rc 2 = 4 by decide]; exact nk2
theorem rkk4 : rk keyK 4 = [239, 68, 165, 65, 168, 82, 91, 127, 182, 113, 37, 59, 219, 11, 173, 0] := by
  show nxt (rk keyK 3) (rc 3) = _
  rw [rkk3, show rc 3 = 8 by decide]; exact nk3
theorem rkk5 : rk keyK 5 = [212, 209, 198, 248, 124, 131, 157, 135, 202, 242, 184, 188, 17, 249, 21, 188] := by
  show nxt (rk keyK 4) (rc 4) = _
  rw [rkk4, show rc 4 = 16 by decide]; exact nk4
theorem rkk6 : rk keyK 6 = [109, 136, 163, 122, 17, 11, 62, 253, 219, 249, 134, 65, 202, 0, 147, 253] := by
  show nxt (rk keyK 5) (rc 5) = _
  rw [rkk5, show rc 5 = 32 by decide]; exact nk5
theorem rkk7 : rk keyK 7 = [78, 84, 247, 14, 95, 95, 201, 243, 132, 166, 79, 178, 78, 166, 220, 79] := by
  show nxt (rk keyK 6) (rc 6) = _
  rw [rkk6, show rc 6 = 64 by decide]; exact nk6
theorem rkk8 : rk keyK 8 = [234, 210, 115, 33, 181, 141, 186, 210, 49, 43, 245, 96, 127, 141, 41, 47] := by
  show nxt (rk keyK 7) (rc 7) = _
  rw [rkk7, show rc 7 = 128 by decide]; exact nk7
theorem rkk9 : rk keyK 9 = [172, 119, 102, 243, 25, 250, 220, 33, 40, 209, 41, 65, 87, 92, 0, 110] := by
  show nxt (rk keyK 8) (rc 8) = _
  rw [rkk8, show rc 8 = 27 by decide]; exact nk8
theorem rkk10 : rk keyK 10 = [208, 20, 249, 168, 201, 238, 37, 137, 225, 63, 12, 200, 182, 99, 12, 166] := by
  show nxt (rk keyK 9) (rc 9) = _
  rw [rkk9, show rc 9 = 54 by decide]; exact nk9
theorem sz0 : encS keyK (zs 16) 0 = [43, 126, 21, 22, 40, 174, 210, 166, 171, 247, 21, 136, 9, 207, 79, 60] := by decide +kernel
theorem sz1 : encS keyK (zs 16) 1 = [220, 216, 127, 111, 155, 96, 170, 143, 31, 1, 15, 4, 87, 144, 162, 211] := by
  show xorL (mixL (shL (encS keyK (zs 16) 0))) (rk keyK 1) = _
  rw [sz0, rkk1]; decide +kernel
theorem sz2 : encS keyK (zs 16) 2 = [158, 3, 133, 9, 68, 156, 70, 114, 195, 43, 10, 117, 56, 221, 130, 160] := by
  show xorL (mixL (shL (encS keyK (zs 16) 1))) (rk keyK 2) = _
  rw [sz1, rkk2]; decide +kernel
theorem sz3 : encS keyK (zs 16) 3 = [213, 101, 103, 2, 107, 192, 49, 243, 205, 118, 100, 224, 41, 248, 252, 50] := by
  show xorL (mixL (shL (encS keyK (zs 16) 2))) (rk keyK 3) = _
  rw [sz2, rkk3]; decide +kernel
theorem sz4 : encS keyK (zs 16) 4 = [92, 206, 255, 251, 217, 225, 254, 152, 156, 215, 223, 57, 123, 135, 232, 167] := by
  show xorL (mixL (shL (encS keyK (zs 16) 3))) (rk keyK 4) = _
  rw [sz3, rkk4]; decide +kernel
theorem sz5 : encS keyK (zs 16) 5 = [145, 149, 183, 248, 144, 19, 154, 83, 4, 126, 151, 72, 124, 17, 228, 203] := by
  show xorL (mixL (shL (encS keyK (zs 16) 4))) (rk keyK 5) = _
  rw [sz4, rkk5]; decide +kernel
theorem sz6 : encS keyK (zs 16) 6 = [100, 111, 117, 41, 247, 108, 188, 69, 253, 25, 147, 166, 126, 197, 52, 251] := by
  show xorL (mixL (shL (encS keyK (zs 16) 5))) (rk keyK 6) = _
  rw [sz5, rkk6]; decide +kernel
theorem sz7 : encS keyK (zs 16) 7 = [235, 199, 86, 89, 85, 9, 177, 214, 46, 119, 46, 169, 17, 149, 33, 196] := by
  show xorL (mixL (shL (encS keyK (zs 16) 6))) (rk keyK 7) = _
  rw [sz6, rkk7]; decide +kernel
theorem sz8 : encS keyK (zs 16) 8 = [13, 118, 221, 9, 100, 87, 20, 72, 106, 112, 150, 95, 42, 8, 136, 1] := by
  show xorL (mixL (shL (encS keyK (zs 16) 7))) (rk keyK 8) = _
  rw [sz7, rkk8]; decide +kernel
theorem sz9 : encS keyK (zs 16) 9 = [24, 193, 85, 162, 169, 77, 94, 115, 239, 185, 116, 18, 251, 19, 120, 29] := by
  show xorL (mixL (shL (encS keyK (zs 16) 8))) (rk keyK 9) = _
  rw [sz8, rkk9]; decide +kernel
theorem encz : encL keyK (zs 16) = [125, 247, 107, 12, 26, 184, 153, 179, 62, 66, 240, 71, 185, 27, 84, 111] := by
  show xorL (shL (encS keyK (zs 16) 9)) (rk keyK 10) = _
  rw [sz9, rkk10]; decide +kernel
theorem sb0 : encS keyK blkK 0 = [92, 163, 185, 38, 66, 76, 180, 106, 82, 252, 212, 150, 237, 162, 30, 7] := by decide +kernel
theorem sb1 : encS keyK blkK 1 = [194, 255, 89, 57, 158, 98, 86, 242, 57, 47, 169, 81, 131, 49, 131, 70] := by
  show xorL (mixL (shL (encS keyK blkK 0))) (rk keyK 1) = _
  rw [sb0, rkk1]; decide +kernel
theorem sb2 : encS keyK blkK 2 = [212, 156, 73, 80, 173, 138, 82, 131, 109, 125, 88, 73, 234, 128, 29, 78] := by
  show xorL (mixL (shL (encS keyK blkK 1))) (rk keyK 2) = _
  rw [sb1, rkk2]; decide +kernel
theorem sb3 : encS keyK blkK 3 = [106, 165, 212, 239, 155, 194, 50, 103, 253, 63, 214, 53, 58, 97, 156, 1] := by
  show xorL (mixL (shL (encS keyK blkK 2))) (rk keyK 3) = _
  rw [sb2, rkk3]; decide +kernel
theorem sb4 : encS keyK blkK 4 = [14, 113, 241, 108, 30, 10, 231, 77, 249, 189, 154, 113, 127, 116, 204, 137] := by
  show xorL (mixL (shL (encS keyK blkK 3))) (rk keyK 4) = _
  rw [sb3, rkk4]; decide +kernel
theorem sb5 : encS keyK blkK 5 = [47, 192, 147, 148, 13, 136, 243, 128, 12, 79, 212, 226, 103, 114, 169, 187] := by
  show xorL (mixL (shL (encS keyK blkK 4))) (rk keyK 5) = _
  rw [sb4, rkk5]; decide +kernel
theorem sb6 : encS keyK blkK 6 = [178, 60, 199, 6, 194, 131, 182, 140, 237, 53, 215, 69, 155, 101, 5, 245] := by
  show xorL (mixL (shL (encS keyK blkK 5))) (rk keyK 6) = _
  rw [sb5, rkk6]; decide +kernel
theorem sb7 : encS keyK blkK 7 = [231, 84, 1, 98, 176, 159, 29, 191, 91, 92, 108, 14, 96, 195, 13, 10] := by
  show xorL (mixL (shL (encS keyK blkK 6))) (rk keyK 7) = _
  rw [sb6, rkk7]; decide +kernel
theorem sb8 : encS keyK blkK 8 = [152, 124, 53, 195, 195, 54, 71, 50, 69, 194, 2, 105, 171, 65, 108, 141] := by
  show xorL (mixL (shL (encS keyK blkK 7))) (rk keyK 8) = _
  rw [sb7, rkk8]; decide +kernel
theorem sb9 : encS keyK blkK 9 = [5, 255, 44, 241, 84, 64, 5, 122, 223, 32, 150, 160, 250, 28, 57, 145] := by
  show xorL (mixL (shL (encS keyK blkK 8))) (rk keyK 9) = _
  rw [sb8, rkk9]; decide +kernel
theorem encb : encL keyK blkK = [187, 29, 105, 41, 233, 89, 55, 40, 127, 163, 125, 18, 155, 117, 103, 70] := by
  show xorL (shL (encS keyK blkK 9)) (rk keyK 10) = _
  rw [sb9, rkk10]; decide +kernel
theorem oneK : oneL keyK = [251, 238, 214, 24, 53, 113, 51, 102, 124, 133, 224, 143, 114, 54, 168, 222] := by
  unfold oneL
  rw [encz]; decide +kernel
theorem twoK : twoL keyK = [247, 221, 172, 48, 106, 226, 102, 204, 249, 11, 193, 30, 228, 109, 81, 59] := by
  unfold twoL
  rw [oneK]; decide +kernel
theorem known_mac : macL keyK [] = [187, 29, 105, 41, 233, 89, 55, 40, 127, 163, 125, 18, 155, 117, 103, 70] := by
  rw [macL_part (k := keyK) (bs := []) (n := 0) (q := 0) rfl (by decide) (fun _ => rfl), twoK, ← encb]
  rfl
theorem keyK_by : BY keyK := by unfold BY; decide
end Go.Proofs.Ythbgjjfhgbkbdaa.aesC
