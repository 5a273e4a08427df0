/-
  2 texts of a proof, joined.
-/
import Derived.Test.YtapcjgmijcpfiaaDoorMg20
import Derived.Test.YtapcjgmijcpfiaaDoorMg19
import Derived.Test.YtapcjgmijcpfiaaDoorMg14
import Derived.Test.YtapcjgmijcpfiaaDoorMg17

/-
  The walk of OptsFits.
-/
namespace Go.Proofs.YtapcjgmijcpfiaaDoor.opC
open Go.ChangeShapes Go.WideShapes Go.ChangeAt Go.RowKit
open Go.Proofs.YtapcjgmijcpfiaaDoor.memC Go.Proofs.YtapcjgmijcpfiaaDoor.genC Go.Proofs.YtapcjgmijcpfiaaDoor.butC Go.Proofs.YtapcjgmijcpfiaaDoor.freeC Go.Proofs.YtapcjgmijcpfiaaDoor.adC
set_option linter.unusedVariables false
theorem fitA_max (o : Opt) : ∀ (K k : Nat), fitA o K < k → k ≤ K → ¬ sizeN { o with sk := o.sk.take k } ≤ 40
  | 0, k, h, hk => absurd h (by omega)
  | K + 1, k, h, hk => by
    unfold fitA at h
    split at h
    · omega
    · rename_i hs
      by_cases e : k = K + 1
      · rw [e]; exact hs
      · exact fitA_max o K k h (by omega)
theorem fitA_size (o : Opt) : ∀ K, sizeN { o with sk := o.sk.take (fitA o K) } ≤ 40
  | 0 => size_none o
  | K + 1 => by
    by_cases hs : sizeN { o with sk := o.sk.take (K + 1) } ≤ 40
    · rw [show fitA o (K + 1) = if sizeN { o with sk := o.sk.take (K + 1) } ≤ 40 then K + 1 else fitA o K from rfl, if_pos hs]; exact hs
    · rw [show fitA o (K + 1) = if sizeN { o with sk := o.sk.take (K + 1) } ≤ 40 then K + 1 else fitA o K from rfl, if_neg hs]; exact fitA_size o K
theorem fit_may {o : Opt} (h : mayB { o with sk := [] } = true) : mayB (fitO o) = true := by
  simp only [mayB, Bool.and_eq_true, decide_eq_true_eq] at h ⊢
  exact ⟨h.1, h.2.1, by rw [fitO_len]; exact (fitN_le o).2, fitA_size o _⟩
theorem fit_max {o : Opt} (h : fitN o < o.sk.length) : mayB { o with sk := o.sk.take (fitN o + 1) } = false := by
  refine Bool.eq_false_iff.2 fun h1 => ?_
  simp only [mayB, Bool.and_eq_true, decide_eq_true_eq, List.length_take] at h1
  obtain ⟨_, _, h4, h5⟩ := h1
  exact fitA_max o (min o.sk.length 4) (fitN o + 1) (by unfold fitN; omega) (by unfold fitN at *; omega) h5
theorem fit_at {o : Opt} {i : Nat} (h : i < fitN o) : (fitO o).sk.getD i (0, 0) = o.sk.getD i (0, 0) := by
  unfold fitO
  rw [List.getD_eq_getElem?_getD, List.getD_eq_getElem?_getD, List.getElem?_take, if_pos h]
def qfV (g0 g1 b1 o1 b2 o2 kx : Nat) (x1 y1 : Int) (n c m d : Nat) : Nat → Value → World → Prop
  | 0, v, _ => v = .pointer (some ⟨g0, 5, none⟩)
  | 1, v, _ => v = .slice (some ⟨b1, o1, none⟩) n c
  | 2, v, _ => v = .int .i64 kx
  | 3, v, _ => v = .pointer (some ⟨b1, o1 + kx * 2, none⟩)
  | 4, v, _ => v = .agg #[.int .u32 x1, .int .u32 y1]
  | 5, v, _ => v = .pointer (some ⟨g1, 5, none⟩)
  | 6, v, _ => v = .slice (some ⟨b2, o2, none⟩) m d
  | 7, v, _ => v = .int .i64 kx
  | 8, v, _ => v = .pointer (some ⟨b2, o2 + kx * 2, none⟩)
  | 9, v, _ => v = .agg #[.int .u32 x1, .int .u32 y1]
  | 10, v, _ => v = .bool false
  | _, _, _ => True
theorem qfV.keep (g0 g1 b1 o1 b2 o2 kx : Nat) (x1 y1 : Int) (n c m d : Nat) (i : Nat) (v : Value) (w w' : World) (hb : Below w.heap.size w w') (h : qfV g0 g1 b1 o1 b2 o2 kx x1 y1 n c m d i v w) : qfV g0 g1 b1 o1 b2 o2 kx x1 y1 n c m d i v w' := by
  unfold qfV at h ⊢
  split at h <;> exact h
def qfT : List (Option Nat) := [none, none, none, none, none, none, none, none, none, none, none, none, none, none, none, none, none, none, none, none, none, none, none, none, none, none, none, none, none, none, none, none, none, none, none, some 0, some 1, some 2, some 3, some 4, some 5, some 6, some 7, some 8, some 9, some 10, none, none, none, none, none, none, none, none, none, none, none, none, none, none, none, none, none, none, none, none, none, none, none]
set_option maxRecDepth 100000 in
set_option maxHeartbeats 8000000 in
theorem fits_walk (o : Opt) (A : Option Addr) (n c : Nat) (w : World) (hk : Kd w) (ho : o.Ok) (hn : o.sk.length = n) (hs : Prs w w.heap.size A n o.sk) (hc : n ≤ c) (hcm : c ≤ 9223372036854775807) :
    Calls Tryd.prog 7 #[.agg (optV o A n c)] w (Ret w (.bool true)) := by
  have hzv := zeroOpt
  obtain ⟨W, hW⟩ : ∃ W, W = w.alloc (.cells (optV o A n c) 27) := ⟨_, rfl⟩
  have R := Lib.hid (show OptAt W w.heap.size o A n c by unfold OptAt; rw [hW]; exact heap_alloc_new _ _)
  have HB := Lib.hid (show Below w.heap.size w W by rw [hW]; exact alloc_below _ _)
  have HK := Lib.hid hk
  have MK := Lib.hid ho.lm
  have HN := Lib.hid hn
  have HC := Lib.hid hc
  have HCM := Lib.hid hcm
  have FA := Lib.hid (fun w' => far_any o A n c w' ho.lm)
  have HP := Lib.hid (fun (w' : World) (h : Below w.heap.size w w') => (hs.below h).more h.size)
  have FT := Lib.hid (fun (w' : World) (h : Below w.heap.size w w') (hf : n ≤ 500) => cfit_any o A n c w' (hk.below h hk.lt) ho hn (HP.out w' h) hc (by omega) hcm)
  have MB := Lib.hid (fun (w' : World) (h : Below w.heap.size w w') => cmay_any { o with sk := [] } none 0 0 w' (hk.below h hk.lt) ho.lm rfl (by decide))
  have MF := Lib.hid (fun (A' : Option Addr) (c' : Nat) (w' : World) (h : Below w.heap.size w w') => cmay_any (fitO o) A' (fitN o) c' w' (hk.below h hk.lt) ho.lm (fitO_len o) (by have := (fitN_le o).2; omega))
  have MX := Lib.hid (fun (w' : World) (h : Below w.heap.size w w') (hl : fitN o < n) => cmay_any { o with sk := o.sk.take (fitN o + 1) } A (fitN o + 1) c w' (hk.below h hk.lt) ho.lm (by simp only [List.length_take]; omega) (by have := (fitN_le o).2; omega))
  have AL := Lib.hid (fun (w' : World) (h : Below w.heap.size w w') => alive_any w' (hk.below h hk.lt))
  have IOX := Lib.hid (fun (l : List (Int × Int)) A' n' c' => (optC (o := { o with sk := l }) ho.lm A' n' c').info)
  have SZ := Lib.hid (fun (l : List (Int × Int)) A' n' c' => (optC zOpt_ok.lm none 0 0).size.trans (optC (o := { o with sk := l }) ho.lm A' n' c').size.symm)
  have OO := Lib.hid (fun (l : List (Int × Int)) A' n' c' => opt_one { o with sk := l } A' n' c')
  have I0 := Lib.hid (optC ho.lm A n c).info
  have S0 := Lib.hid ((optC zOpt_ok.lm none 0 0).size.trans (optC ho.lm A n c).size.symm)
  have O0 := Lib.hid (opt_one o A n c)
  unfold FitRet at FT
  obtain ⟨f0, hf0⟩ : ∃ f0, farB n = f0 := ⟨_, rfl⟩
  rw [hf0] at FA
  have HF := Lib.hid hf0
  clear hk ho hn hs hc hcm hf0
  obtain ⟨Z, hZ⟩ : ∃ Z, Z = optV zOpt none 0 0 := ⟨_, rfl⟩
  rw [← hZ] at hzv SZ S0
  clear hZ
  cases f0
  rotate_left
  · go_enter Tryd.func7, Tryd.ntmps7
    go_upto_region 1 with fail
    rw [← hW]
    clear hW hzv
    go_wp2_with (first
      | (refine wpList_load_row rfl 27 (.tmp 1) rfl w.heap.size rfl _ _ _ _ R.out Tryd.underlying27 rfl I0.out ?_)
      | (go_at_call 8; (refine (FA.out _).mono ?_); rintro e w2 ⟨rfl, B2⟩
         have HB2 := Lib.hid (HB.out.trans (B2.mono HB.out.size))
         clear B2)
      | (go_at_call 9; (refine (AL.out _ HB2.out).mono ?_); rintro e w3 ⟨rfl, B3⟩
         have HB3 := Lib.hid (HB2.out.trans (B3.mono HB2.out.size))
         clear B3))
    go_ret
    exact ⟨rfl, HB3.out⟩
  have hf5 := Lib.hid (show n ≤ 500 by have h := HF.out; unfold farB at h; have := of_decide_eq_false h; omega)
  go_enter Tryd.func7, Tryd.ntmps7
  try simp only [List.append_eq, List.cons_append, List.nil_append]
  go_upto_region 1 with fail
  rw [← hW]
  clear hW
  go_upto_region 3 with (first
    | (refine wpList_load_row rfl 27 (.tmp 1) rfl w.heap.size rfl _ _ _ _ R.out Tryd.underlying27 rfl I0.out ?_)
    | (go_at_call 8; (refine (FA.out _).mono ?_); rintro e w2 ⟨rfl, B2⟩
       have HB2 := Lib.hid (HB.out.trans (B2.mono HB.out.size))
       have R2 := Lib.hid (OptAt.bel R.out B2)
       clear B2))
  clear FA HF
  go_upto_region 4 with (first
    | (refine wpList_load_rowG (by kernel_rfl) 27 (.tmp 1) rfl w.heap.size (by kernel_rfl) _ _ _ _ R2.out Tryd.underlying27 rfl I0.out ?_)
    | (refine wpList_store_row rfl 27 (.tmp 3) (.tmp 9) rfl w2.heap.size _ rfl rfl _ _ (heap_alloc_new _ _) I0.out S0.out O0.out ?_; rw [World.setRow_alloc_new]))
  have B3 := Lib.hid (alloc_below w2 (.cells (optV o A n c) 27))
  have HB3 := Lib.hid (HB2.out.trans (B3.out.mono HB2.out.size))
  have R3 := Lib.hid (OptAt.bel R2.out B3.out)
  have T3 := Lib.hid (show OptAt (w2.alloc (.cells (optV o A n c) 27)) w2.heap.size o A n c from heap_alloc_new _ _)
  have L2 := Lib.hid (OptAt.lt R2.out)
  generalize w2.alloc (.cells (optV o A n c) 27) = w3 at *
  have k5 := pkC.PkC.cell T3.out (optC MK.out A n c).sk
  have f5 := OptAt.frozen T3.out 5
  clear B3
  go_upto_region 5 with fail
  have T4 := Lib.hid (OptAt.set_ T3.out (o' := { o with sk := [] }) (A' := none) (n' := 0) (c' := 0) 5 (.slice none 0 0) (optV_sk _))
  have R4 := Lib.hid (OptAt.other R3.out (a := ⟨w2.heap.size, 5, none⟩) (by have := L2.out; show w2.heap.size ≠ w.heap.size; omega) (.slice none 0 0))
  have HB4 := Lib.hid (Below.setCell HB3.out (p := ⟨w2.heap.size, 5, none⟩) (Nat.le_of_lt L2.out) (.slice none 0 0))
  clear k5 f5 T3 R3 HB3
  generalize w3.setCell ⟨w2.heap.size, 5, none⟩ (.slice none 0 0) = w4 at *
  go_upto_region 6 with (first
    | (refine wpList_load_rowG (by kernel_rfl) 27 (.tmp 1) rfl w.heap.size (by kernel_rfl) _ _ _ _ R4.out Tryd.underlying27 rfl I0.out ?_)
    | (go_at_call 20; (refine (FT.out _ HB4.out hf5.out).mono ?_); rintro e w5 ⟨A5, c5, rfl, g5, P5, B5⟩
       have HG5 := Lib.hid g5
       have PP5 := Lib.hid P5
       have HB5 := Lib.hid (HB4.out.trans (B5.mono HB4.out.size))
       have R5 := Lib.hid (OptAt.bel R4.out B5)
       have T5 := Lib.hid (OptAt.bel T4.out B5)
       clear g5 P5 B5)
    | (refine wpList_store_row rfl 27 (.tmp 4) (.tmp 12) rfl w5.heap.size _ rfl rfl _ _ (heap_alloc_new _ _) (IOX.out (o.sk.take (fitN o)) A5 _ c5) (SZ.out (o.sk.take (fitN o)) A5 _ c5) (OO.out (o.sk.take (fitN o)) A5 _ c5) ?_; rw [World.setRow_alloc_new]))
  clear FT hzv S0 O0 SZ OO
  have B6 := Lib.hid (alloc_below w5 (.cells (optV (fitO o) A5 (fitN o) c5) 27))
  have HB6 := Lib.hid (HB5.out.trans (B6.out.mono HB5.out.size))
  have R6 := Lib.hid (OptAt.bel R5.out B6.out)
  have T6 := Lib.hid (OptAt.bel T5.out B6.out)
  have F6 := Lib.hid (show OptAt (w5.alloc (.cells (optV (fitO o) A5 (fitN o) c5) 27)) w5.heap.size (fitO o) A5 (fitN o) c5 from heap_alloc_new _ _)
  have P6 := Lib.hid ((PP5.out.below B6.out).more B6.out.size)
  have L5 := Lib.hid (OptAt.lt R5.out)
  generalize w5.alloc (.cells (optV (fitO o) A5 (fitN o) c5) 27) = w6 at *
  clear B6 PP5 R5 T5 R4 T4
  obtain ⟨m, hm⟩ : ∃ m, mayB { o with sk := [] } = m := ⟨_, rfl⟩
  rw [hm] at MB
  have HM := Lib.hid hm
  clear hm
  cases m
  · go_wp2_with (first
      | (refine wpList_load_rowG (by kernel_rfl) 27 (.tmp 3) rfl w2.heap.size (by kernel_rfl) _ _ _ _ T6.out Tryd.underlying27 rfl (IOX.out [] none 0 0) ?_)
      | (go_at_call 14; (refine (MB.out _ HB6.out).mono ?_); rintro e w7 ⟨rfl, B7⟩
         have HB7 := Lib.hid (HB6.out.trans (B7.mono HB6.out.size))
         clear B7)
      | (go_at_call 9; (refine (AL.out _ HB7.out).mono ?_); rintro e w8 ⟨rfl, BZ⟩
         have HBZ := Lib.hid (HB7.out.trans (BZ.mono HB7.out.size))
         clear BZ))
    go_ret
    exact ⟨rfl, HBZ.out⟩
  have hmf := fit_may HM.out
  rw [hmf] at MF
  clear hmf
  go_upto_region 8 with (first
      | (refine wpList_load_rowG (by kernel_rfl) 27 (.tmp 3) rfl w2.heap.size (by kernel_rfl) _ _ _ _ T6.out Tryd.underlying27 rfl (IOX.out [] none 0 0) ?_)
      | (go_at_call 14; (refine (MB.out _ HB6.out).mono ?_); rintro e w7 ⟨rfl, B7⟩
         have HB7 := Lib.hid (HB6.out.trans (B7.mono HB6.out.size))
         have R7 := Lib.hid (OptAt.bel R6.out B7)
         have F7 := Lib.hid (OptAt.bel F6.out B7)
         have P7 := Lib.hid ((P6.out.below B7).more B7.size)
         clear B7))
  clear MB R6 F6 T6 P6
  obtain ⟨k, hkk⟩ : ∃ k, k = fitN o := ⟨_, rfl⟩
  have HKF := Lib.hid hkk
  have KN := Lib.hid (show k ≤ n by rw [hkk, ← HN.out]; exact (fitN_le o).1)
  rw [← hkk] at MF MX F7 P7 HG5
  clear hkk
  have e1 : ¬ ((n : Int) < (k : Int)) := by have := KN.out; omega
  have e2 : decide ((n : Int) < (k : Int)) = false := decide_eq_false e1
  have e3 : ¬ n < k := by omega
  have e4 : decide (n < k) = false := decide_eq_false e3
  go_upto_region 10 with (first
      | (refine wpList_load_rowG (by kernel_rfl) 27 (.tmp 4) rfl w5.heap.size (by kernel_rfl) _ _ _ _ F7.out Tryd.underlying27 rfl (IOX.out (o.sk.take (fitN o)) A5 k c5) ?_)
      | (go_at_call 14; (refine (MF.out A5 c5 _ HB7.out).mono ?_); rintro e w8 ⟨rfl, B8⟩
         have HB8 := Lib.hid (HB7.out.trans (B8.mono HB7.out.size))
         have R8 := Lib.hid (OptAt.bel R7.out B8)
         have F8 := Lib.hid (OptAt.bel F7.out B8)
         have P8 := Lib.hid ((P7.out.below B8).more B8.size)
         have k5 := pkC.PkC.cell R8.out (optC MK.out A n c).sk
         have j5 := pkC.PkC.cell F8.out (optC (o := fitO o) MK.out A5 k c5).sk
         clear B8))
  clear R7 F7 P7 e1 e2 e3 e4 MF
  have SA := Lib.hid (fun (w' : World) (h : Below w8.heap.size w8 w') => pkC.PkC.cell (OptAt.bel R8.out h) (optC MK.out A n c).sk)
  have SB := Lib.hid (fun (w' : World) (h : Below w8.heap.size w8 w') => pkC.PkC.cell (OptAt.bel F8.out h) (optC (o := fitO o) MK.out A5 k c5).sk)
  have H8 := Lib.hid (HP.out w8 HB8.out)
  go_upto_region 11 with fail
  clear k5 j5
  go_loopw [32] (fun u wr => ∃ i : Nat, i ≤ k ∧ u = .int .i64 i ∧ Below w8.heap.size w8 wr) (fun u _ => k - (intOf u).toNat)
  case atStart => exact ⟨0, by omega, rfl, Below.refl _ _⟩
  case round =>
    obtain ⟨i, hi, rfl, BW⟩ := hrel
    have HBW := Lib.hid BW
    have k5 := SA.out wr BW
    have j5 := SB.out wr BW
    by_cases hlt : i < k
    · have hin : i < n := by have := KN.out; omega
      obtain ⟨b1, o1, hA1, hb1, c0, c1⟩ := P8.out.cell hlt
      obtain ⟨b2, o2, hA2, hb2, d0, d1⟩ := H8.out.cell hin
      rw [fit_at (by rw [← HKF.out]; exact hlt)] at c0 c1
      obtain ⟨p', hp⟩ : ∃ p', p' = o.sk.getD i (0, 0) := ⟨_, rfl⟩
      have EB := Lib.hid (fun w => eqB p' p' w)
      rw [← hp] at c0 c1 d0 d1
      have C1 := Lib.hid (fun w' (h : Gr wr w') => Prs.cells2 c0 c1 hb1 (BW.trans (Below.mono h BW.size)))
      have C2 := Lib.hid (fun w' (h : Gr wr w') => Prs.cells2 d0 d1 hb2 (BW.trans (Below.mono h BW.size)))
      unfold pairV at EB
      clear hp
      obtain ⟨x1, y1⟩ := p'
      simp only [decide_true] at C1 C2 EB
      have S0 := Lib.hid (fun w' (h : Gr wr w') => SB.out w' (HBW.out.trans (Below.mono h HBW.out.size)))
      have S1 := Lib.hid (fun w' (h : Gr wr w') => SA.out w' (HBW.out.trans (Below.mono h HBW.out.size)))
      subst hA1
      subst hA2
      have I1 := Lib.hid (show (i : Int) < (k : Int) by omega)
      have I2 := Lib.hid (show (i : Int) < (n : Int) by omega)
      have KI := Lib.hid (show (0 : Int) ≤ (i : Int) by omega)
      have q6 : (i : Int) < (k : Int) := by omega
      have wi : IntKind.i64.wrap ((i : Int) + 1) = (i : Int) + 1 := IntWalk.i64_in _ (by have := KN.out; have := hf5.out; omega)
      have HI := Lib.hid hlt
      clear BW c0 c1 d0 d1 hb1 hb2 hi hlt hin MX HP
      go_upto_region 13 with fail
      clear k5 j5
      refine with_act fun a0 ha0 => ?_
      have hl : qfT.length = a0.tmps.size := by rw [ha0]; rfl
      have k4 : a0.tmps[4]?.getD undef = .pointer (some ⟨w5.heap.size, 0, none⟩) := by rw [ha0]; rfl
      have k1 : a0.tmps[1]?.getD undef = .pointer (some ⟨w.heap.size, 0, none⟩) := by rw [ha0]; rfl
      have k5 : a0.tmps[5]?.getD undef = .int .i64 i := by rw [ha0]; rfl
      refine wp_region_vals (by kernel_rfl) qfT (by kernel_rfl) (by kernel_rfl) hl (fun i => a0.tmps[i + 35]?.getD undef) (by rw [ha0]; rfl) (Gr wr) (qfV w5.heap.size w.heap.size b1 o1 b2 o2 i x1 y1 k c5 n c) (gr_drewG _ _) (qfV.keep _ _ _ _ _ _ _ _ _ _ _ _ _) ⟨?_, ?_, ?_, ?_, ?_, ?_, ?_, ?_, ?_, ?_, ?_, trivial⟩ ?_
      · refine step_plain [] (by kernel_rfl) rfl fun us w' hG hV => ?_
        have o4 := (frame_old2 (us := us) (a := a0) (show (qfT[4]?).join = none from rfl)).trans k4
        generalize frame qfT a0 us = fr at *
        exact val_ok (v := .pointer (some ⟨w5.heap.size, 5, none⟩)) (w' := w') (by go_simp) hG (Below.refl _ _) rfl
      · refine step_plain [0] (by kernel_rfl) rfl fun us w' hG hV => ?_
        have e0 : us 0 = .pointer (some ⟨w5.heap.size, 5, none⟩) := hV 0 (by simp)
        have v0 := (frame_at2 (us := us) hl (show (qfT[35]?).join = some 0 from rfl)).trans e0
        have hc := S0.out w' hG
        generalize frame qfT a0 us = fr at *
        exact val_ok (v := .slice (some ⟨b1, o1, none⟩) k c5) (w' := w') (by go_simp) hG (Below.refl _ _) rfl
      · refine step_plain [] (by kernel_rfl) rfl fun us w' hG hV => ?_
        have o5 := (frame_old2 (us := us) (a := a0) (show (qfT[5]?).join = none from rfl)).trans k5
        generalize frame qfT a0 us = fr at *
        exact val_ok (v := .int .i64 i) (w' := w') (by go_simp) hG (Below.refl _ _) rfl
      · refine step_plain [1, 2] (by kernel_rfl) rfl fun us w' hG hV => ?_
        have e1 : us 1 = .slice (some ⟨b1, o1, none⟩) k c5 := hV 1 (by simp)
        have v1 := (frame_at2 (us := us) hl (show (qfT[36]?).join = some 1 from rfl)).trans e1
        have e2 : us 2 = .int .i64 i := hV 2 (by simp)
        have v2 := (frame_at2 (us := us) hl (show (qfT[37]?).join = some 2 from rfl)).trans e2
        have hi := I1.out
        have hk := KI.out
        generalize frame qfT a0 us = fr at *
        exact val_ok (v := .pointer (some ⟨b1, o1 + i * 2, none⟩)) (w' := w') (by go_simp) hG (Below.refl _ _) rfl
      · refine step_plain [3] (by kernel_rfl) rfl fun us w' hG hV => ?_
        have e3 : us 3 = .pointer (some ⟨b1, o1 + i * 2, none⟩) := hV 3 (by simp)
        have v3 := (frame_at2 (us := us) hl (show (qfT[38]?).join = some 3 from rfl)).trans e3
        have hg1 := C1.out w' hG
        generalize frame qfT a0 us = fr at *
        exact val_ok (v := .agg #[.int .u32 x1, .int .u32 y1]) (w' := w') (loadp_run (s := 38) rfl v3 [.int .u32 x1, .int .u32 y1] _ hg1 Tryd.underlying43 rfl (blk_sizeL _ _)) hG (Below.refl _ _) rfl
      · refine step_plain [] (by kernel_rfl) rfl fun us w' hG hV => ?_
        have o1 := (frame_old2 (us := us) (a := a0) (show (qfT[1]?).join = none from rfl)).trans k1
        generalize frame qfT a0 us = fr at *
        exact val_ok (v := .pointer (some ⟨w.heap.size, 5, none⟩)) (w' := w') (by go_simp) hG (Below.refl _ _) rfl
      · refine step_plain [5] (by kernel_rfl) rfl fun us w' hG hV => ?_
        have e5 : us 5 = .pointer (some ⟨w.heap.size, 5, none⟩) := hV 5 (by simp)
        have v5 := (frame_at2 (us := us) hl (show (qfT[40]?).join = some 5 from rfl)).trans e5
        have hc := S1.out w' hG
        generalize frame qfT a0 us = fr at *
        exact val_ok (v := .slice (some ⟨b2, o2, none⟩) n c) (w' := w') (by go_simp) hG (Below.refl _ _) rfl
      · refine step_plain [] (by kernel_rfl) rfl fun us w' hG hV => ?_
        have o5 := (frame_old2 (us := us) (a := a0) (show (qfT[5]?).join = none from rfl)).trans k5
        generalize frame qfT a0 us = fr at *
        exact val_ok (v := .int .i64 i) (w' := w') (by go_simp) hG (Below.refl _ _) rfl
      · refine step_plain [6, 7] (by kernel_rfl) rfl fun us w' hG hV => ?_
        have e6 : us 6 = .slice (some ⟨b2, o2, none⟩) n c := hV 6 (by simp)
        have v6 := (frame_at2 (us := us) hl (show (qfT[41]?).join = some 6 from rfl)).trans e6
        have e7 : us 7 = .int .i64 i := hV 7 (by simp)
        have v7 := (frame_at2 (us := us) hl (show (qfT[42]?).join = some 7 from rfl)).trans e7
        have hi := I2.out
        have hk := KI.out
        generalize frame qfT a0 us = fr at *
        exact val_ok (v := .pointer (some ⟨b2, o2 + i * 2, none⟩)) (w' := w') (by go_simp) hG (Below.refl _ _) rfl
      · refine step_plain [8] (by kernel_rfl) rfl fun us w' hG hV => ?_
        have e8 : us 8 = .pointer (some ⟨b2, o2 + i * 2, none⟩) := hV 8 (by simp)
        have v8 := (frame_at2 (us := us) hl (show (qfT[43]?).join = some 8 from rfl)).trans e8
        have hg1 := C2.out w' hG
        generalize frame qfT a0 us = fr at *
        exact val_ok (v := .agg #[.int .u32 x1, .int .u32 y1]) (w' := w') (loadp_run (s := 43) rfl v8 [.int .u32 x1, .int .u32 y1] _ hg1 Tryd.underlying43 rfl (blk_sizeL _ _)) hG (Below.refl _ _) rfl
      · refine step_plain [4, 9] (by kernel_rfl) rfl fun us w' hG hV => ?_
        have e4 : us 4 = .agg #[.int .u32 x1, .int .u32 y1] := hV 4 (by simp)
        have v4 := (frame_at2 (us := us) hl (show (qfT[39]?).join = some 4 from rfl)).trans e4
        have e9 : us 9 = .agg #[.int .u32 x1, .int .u32 y1] := hV 9 (by simp)
        have v9 := (frame_at2 (us := us) hl (show (qfT[44]?).join = some 9 from rfl)).trans e9
        generalize frame qfT a0 us = fr at *
        exact val_ok (v := .bool false) (w' := w') (neq_run (T := 43) (s := 39) (x := 44) rfl v4 v9 (EB.out w') guard_blk) hG (Below.refl _ _) rfl
      · intro us w9 hG hV
        have e8 : us 10 = .bool false := hV 10 (by decide)
        subst ha0
        simp only [frame, qfT, fill]
        rw [e8]
        have HG3 := Lib.hid hG
        clear hV hl hG k1 k4 k5 e8
        go_wp2_with fail
        go_roundw
        case rel => exact ⟨i + 1, by have := HI.out; omega, by go_num, HBW.out.trans (Below.mono HG3.out HBW.out.size)⟩
        case measure => simp [intOf]; omega
    have hik : i = k := by omega
    subst hik
    clear BW hi hlt
    by_cases hln : i < n
    · have mx := MX.out
      rw [show mayB { o with sk := o.sk.take (i + 1) } = false by rw [HKF.out]; exact fit_max (by rw [← HKF.out, HN.out]; exact hln)] at mx
      obtain ⟨kk, hkk⟩ : ∃ kk, kk = i + 1 := ⟨_, rfl⟩
      rw [← hkk] at mx
      have MX2 := Lib.hid (fun w' h => mx w' h hln)
      have HKK := Lib.hid hkk
      have F9 := Lib.hid (OptAt.bel F8.out HBW.out)
      have f5 := OptAt.frozen F9.out 5
      have wi : IntKind.i64.wrap ((i : Int) + 1) = (kk : Int) := by rw [hkk]; have := hf5.out; exact IntWalk.i64_in _ (by omega)
      have q1 : (i : Int) < (n : Int) := by omega
      have q2 : (kk : Int) ≤ (c : Int) := by have := HC.out; omega
      have q3 : (0 : Int) ≤ (kk : Int) := by omega
      clear mx hkk hln MX
      go_upto_region 18 with fail
      have F10 := Lib.hid (OptAt.set_ F9.out (o' := { o with sk := o.sk.take kk }) (A' := A) (n' := kk) (c' := c) 5 (.slice A kk c) (optV_sk _))
      have HB9 := Lib.hid (HB8.out.trans (Below.mono HBW.out HB8.out.size))
      have HB10 := Lib.hid (Below.setCell HB9.out (p := ⟨w5.heap.size, 5, none⟩) (Nat.le_of_lt L5.out) (.slice A kk c))
      clear k5 j5 f5 F9 F8
      generalize wr.setCell ⟨w5.heap.size, 5, none⟩ (.slice A kk c) = w10 at *
      go_wp2_with (first
        | (refine wpList_load_rowG (by kernel_rfl) 27 (.tmp 4) rfl w5.heap.size (by kernel_rfl) _ _ _ _ F10.out Tryd.underlying27 rfl (IOX.out (o.sk.take kk) A kk c) ?_)
        | (go_at_call 14; (refine (MX2.out _ HB10.out).mono ?_); rintro e w11 ⟨rfl, B11⟩
           have HB11 := Lib.hid (HB10.out.trans (B11.mono HB10.out.size))
           clear B11)
        | (go_at_call 9; (refine (AL.out _ HB11.out).mono ?_); rintro e w12 ⟨rfl, BZ⟩
           have HBZ := Lib.hid (HB11.out.trans (BZ.mono HB11.out.size))
           clear BZ))
      go_ret
      exact ⟨rfl, HBZ.out⟩
    · have hin : i = n := by have := KN.out; omega
      subst hin
      have HB9 := Lib.hid (HB8.out.trans (Below.mono HBW.out HB8.out.size))
      clear hln
      go_wp2_with (first
        | (go_at_call 9; (refine (AL.out _ HB9.out).mono ?_); rintro e w12 ⟨rfl, BZ⟩
           have HBZ := Lib.hid (HB9.out.trans (BZ.mono HB9.out.size))
           clear BZ))
      go_ret
      exact ⟨rfl, HBZ.out⟩
end Go.Proofs.YtapcjgmijcpfiaaDoor.opC

/-
  The walk of OptsTurns.
-/
namespace Go.Proofs.YtapcjgmijcpfiaaDoor.opC
open Go.ChangeShapes Go.WideShapes Go.ChangeAt Go.RowKit
open Go.Proofs.YtapcjgmijcpfiaaDoor.memC Go.Proofs.YtapcjgmijcpfiaaDoor.genC Go.Proofs.YtapcjgmijcpfiaaDoor.butC Go.Proofs.YtapcjgmijcpfiaaDoor.freeC Go.Proofs.YtapcjgmijcpfiaaDoor.adC
set_option linter.unusedVariables false
theorem gr_rowO {w w' : World} {g : Nat} {C : Array Value} {T : TypeId} {s : Nat × Nat} (h : Gr w w') (R : w.heap[g]? = some (.cells C T s)) : w'.heap[g]? = some (.cells C T s) := by rw [Below.block h _ (lt_of_row R)]; exact R
def quV (g0 m : Nat) (FO : Opt) (CO CB : Array Value) : Nat → Value → World → Prop
  | 0, v, _ => v = .agg CO
  | 1, v, _ => v = .agg CB
  | 2, v, _ => v = .agg CO
  | 3, v, _ => v = .agg CB
  | 4, v, _ => v = .bool true
  | 5, v, _ => v = .bool true
  | 6, v, _ => v = .agg CO
  | 7, v, w => ∃ A' c', v = .agg (optV FO A' m c') ∧ Prs w w.heap.size A' m FO.sk
  | 8, v, _ => v = .agg CO
  | 9, v, w => ∃ A' c', v = .agg (optV FO A' m c') ∧ Prs w w.heap.size A' m FO.sk
  | 10, v, _ => v = .bool true
  | 11, v, _ => v = .bool true
  | 12, v, _ => v = .bool true
  | 13, v, _ => v = .bool true
  | 14, v, _ => v = .bool true
  | 15, v, _ => v = .bool true
  | _, _, _ => True
theorem quV.keep (g0 m : Nat) (FO : Opt) (CO CB : Array Value) (i : Nat) (v : Value) (w w' : World) (hb : Below w.heap.size w w') (h : quV g0 m FO CO CB i v w) : quV g0 m FO CO CB i v w' := by
  by_cases e7 : i = 7
  · subst e7
    obtain ⟨A', c', h1, h2⟩ := h
    exact ⟨A', c', h1, (h2.below hb).more hb.size⟩
  by_cases e9 : i = 9
  · subst e9
    obtain ⟨A', c', h1, h2⟩ := h
    exact ⟨A', c', h1, (h2.below hb).more hb.size⟩
  unfold quV at h ⊢
  split at h <;> first | exact h | exact absurd rfl (by assumption)
def quT : List (Option Nat) := [none, none, some 15, none, none, none, some 0, some 1, some 2, some 3, some 4, some 5, some 6, some 7, some 8, some 9, some 10, some 11, some 12, some 13, some 14]
set_option maxRecDepth 100000 in
set_option maxHeartbeats 8000000 in
theorem turns_walk (o : Opt) (A : Option Addr) (n c : Nat) (w : World) (hk : Kd w) (ho : o.Ok) (hn : o.sk.length = n) (hs : Prs w w.heap.size A n o.sk) (hc : n ≤ c) (hcm : c ≤ 9223372036854775807) :
    Calls Tryd.prog 4 #[.agg (optV o A n c)] w (Ret w (.bool true)) := by
  obtain ⟨W, hW⟩ : ∃ W, W = w.alloc (.cells (optV o A n c) 27) := ⟨_, rfl⟩
  have R := Lib.hid (show W.heap[w.heap.size]? = some (.cells (optV o A n c) 27 (0, 0)) by rw [hW]; exact heap_alloc_new _ _)
  have HB := Lib.hid (show Below w.heap.size w W by rw [hW]; exact alloc_below _ _)
  have FA := Lib.hid (fun w' => far_any o A n c w' ho.lm)
  have HP := fun (w' : World) (h : Below w.heap.size w w') => (hs.below h).more h.size
  have FT0 := Lib.hid (fun (w' : World) (h : Below w.heap.size w w') (hf : n ≤ 500) => cfit_any o A n c w' (hk.below h hk.lt) ho hn (HP w' h) hc (by omega) hcm)
  have RT0 := Lib.hid (fun (w' : World) (h : Below w.heap.size w w') (hf : n ≤ 500) => rfit_any o A n c w' ho hn (HP w' h) hc (by omega) hcm)
  have AL0 := Lib.hid (fun (w' : World) (h : Below w.heap.size w w') => alive_any w' (hk.below h hk.lt))
  have CB1 := Lib.hid (fun w' => cbare_any o A n c w' ho.lm)
  have RB1 := Lib.hid (fun w' => rbare_any o A n c w' ho.lm)
  have SB := Lib.hid (fun (w' : World) => (show Calls Tryd.prog 17 #[.agg (optV (bareO o) none 0 0), .agg (optV (bareO o) none 0 0)] w' (Ret w' (.bool true)) by
    have h9 := rsame_any (bareO o) (bareO o) none none 0 0 0 0 w' (bareO_ok ho).lm (bareO_ok ho).lm (by rw [bare_sk]; exact Prs.none_) (by rw [bare_sk]; exact Prs.none_) (by decide) (by decide)
    rw [sameB_self] at h9
    exact h9))
  have SM := Lib.hid (fun (A' : Option Addr) (c' : Nat) (A'' : Option Addr) (c'' : Nat) (w' : World) (P : Prs w' w'.heap.size A' (fitN o) (fitO o).sk) (Q : Prs w' w'.heap.size A'' (fitN o) (fitO o).sk) => (show Calls Tryd.prog 17 #[.agg (optV (fitO o) A' (fitN o) c'), .agg (optV (fitO o) A'' (fitN o) c'')] w' (Ret w' (.bool true)) by
    have h9 := rsame_any (fitO o) (fitO o) A' A'' (fitN o) c' (fitN o) c'' w' ho.lm ho.lm P Q (by have := (fitN_le o).2; omega) (by have := (fitN_le o).2; omega)
    rw [sameB_self] at h9
    exact h9))
  have IP := Lib.hid (optC ho.lm A n c).info
  unfold FitRet at FT0 RT0
  obtain ⟨f0, hf0⟩ : ∃ f0, farB n = f0 := ⟨_, rfl⟩
  rw [hf0] at FA
  have HF := Lib.hid hf0
  clear HP hk ho hn hs hc hcm hf0
  generalize optV o A n c = CO at *
  generalize optV (bareO o) none 0 0 = CB at *
  generalize fitO o = FO at *
  generalize fitN o = m at *
  cases f0
  rotate_left
  · go_enter Tryd.func4, Tryd.ntmps4
    go_upto_region 1 with fail
    rw [← hW]
    clear hW
    go_wp2_with (first
      | (refine wpList_load_row rfl 27 (.tmp 1) rfl w.heap.size rfl _ _ _ _ R.out Tryd.underlying27 rfl IP.out ?_)
      | (go_at_call 8; (refine (FA.out _).mono ?_); rintro e w2 ⟨rfl, B2⟩
         have HB2 := Lib.hid (HB.out.trans (B2.mono HB.out.size))
         clear B2)
      | (go_at_call 9; (refine (AL0.out _ HB2.out).mono ?_); rintro e w3 ⟨rfl, B3⟩
         have HB3 := Lib.hid (HB2.out.trans (B3.mono HB2.out.size))
         clear B3))
    go_ret
    exact ⟨rfl, HB3.out⟩
  have hf5 := Lib.hid (show n ≤ 500 by have h := HF.out; unfold farB at h; have := of_decide_eq_false h; omega)
  go_enter Tryd.func4, Tryd.ntmps4
  go_upto_region 1 with fail
  rw [← hW]
  clear hW
  go_upto_region 3 with (first
    | (refine wpList_load_row rfl 27 (.tmp 1) rfl w.heap.size rfl _ _ _ _ R.out Tryd.underlying27 rfl IP.out ?_)
    | (go_at_call 8; (refine (FA.out _).mono ?_); rintro e w2 ⟨rfl, B2⟩
       have HB2 := Lib.hid (HB.out.trans (B2.mono HB.out.size))
       have R2 := Lib.hid (show w2.heap[w.heap.size]? = some (.cells CO 27 (0, 0)) by rw [B2.block _ (lt_of_row R.out)]; exact R.out)
       clear B2))
  have FT := Lib.hid (fun (w' : World) (h : Gr w2 w') => FT0.out w' (HB2.out.trans (Below.mono h HB2.out.size)) hf5.out)
  have RT := Lib.hid (fun (w' : World) (h : Gr w2 w') => RT0.out w' (HB2.out.trans (Below.mono h HB2.out.size)) hf5.out)
  have AL := Lib.hid (fun (w' : World) (h : Gr w2 w') => AL0.out w' (HB2.out.trans (Below.mono h HB2.out.size)))
  clear FT0 RT0 AL0 FA R HB
  refine with_act fun a0 ha0 => ?_
  have hl : quT.length = a0.tmps.size := by rw [ha0]; rfl
  have k1 : a0.tmps[1]?.getD undef = .pointer (some ⟨w.heap.size, 0, none⟩) := by rw [ha0]; rfl
  refine wp_region_vals (by kernel_rfl) quT (by kernel_rfl) (by kernel_rfl) hl (fun i => if i = 15 then .bool false else undef) (by rw [ha0]; rfl) (Gr w2) (quV w.heap.size m FO CO CB) (gr_drewG _ _) (quV.keep _ _ _ _ _) ⟨?_, ?_, ?_, ?_, ?_, ?_, ?_, ?_, ?_, ?_, ?_, ?_, ?_, ?_, ?_, ?_, trivial⟩ ?_
  · refine step_plain [] (by kernel_rfl) rfl fun us w' hG hV => ?_
    have o1 := (frame_old2 (us := us) (a := a0) (show (quT[1]?).join = none from rfl)).trans k1
    have hg1 := gr_rowO hG R2.out
    generalize frame quT a0 us = fr at *
    exact load_ok 27 1 rfl (w.heap.size) o1 _ _ (0, 0) _ hg1 Tryd.underlying27 rfl IP.out hG rfl
  · refine step_plain [0] (by kernel_rfl) rfl fun us w' hG hV => ?_
    have e0 : us 0 = .agg CO := hV 0 (by simp)
    have v0 := (frame_at2 (us := us) hl (show (quT[6]?).join = some 0 from rfl)).trans e0
    generalize frame quT a0 us = fr at *
    exact call_ok (f := 18) (args := #[.agg CO]) (by go_simp) ((CB1.out w').mono fun e w'' h => ⟨_, h.1, hG.below h.2, h.2, rfl⟩)
  · refine step_plain [] (by kernel_rfl) rfl fun us w' hG hV => ?_
    have o1 := (frame_old2 (us := us) (a := a0) (show (quT[1]?).join = none from rfl)).trans k1
    have hg1 := gr_rowO hG R2.out
    generalize frame quT a0 us = fr at *
    exact load_ok 27 1 rfl (w.heap.size) o1 _ _ (0, 0) _ hg1 Tryd.underlying27 rfl IP.out hG rfl
  · refine step_plain [2] (by kernel_rfl) rfl fun us w' hG hV => ?_
    have e2 : us 2 = .agg CO := hV 2 (by simp)
    have v2 := (frame_at2 (us := us) hl (show (quT[8]?).join = some 2 from rfl)).trans e2
    generalize frame quT a0 us = fr at *
    exact call_ok (f := 19) (args := #[.agg CO]) (by go_simp) ((RB1.out w').mono fun e w'' h => ⟨_, h.1, hG.below h.2, h.2, rfl⟩)
  · refine step_plain [1, 3] (by kernel_rfl) rfl fun us w' hG hV => ?_
    have e1 : us 1 = .agg CB := hV 1 (by simp)
    have v1 := (frame_at2 (us := us) hl (show (quT[7]?).join = some 1 from rfl)).trans e1
    have e3 : us 3 = .agg CB := hV 3 (by simp)
    have v3 := (frame_at2 (us := us) hl (show (quT[9]?).join = some 3 from rfl)).trans e3
    generalize frame quT a0 us = fr at *
    exact call_ok (f := 17) (args := #[.agg CB, .agg CB]) (by go_simp) ((SB.out w').mono fun e w'' h => ⟨_, h.1, hG.below h.2, h.2, rfl⟩)
  · refine step_plain [4] (by kernel_rfl) rfl fun us w' hG hV => ?_
    have e4 : us 4 = .bool true := hV 4 (by simp)
    have v4 := (frame_at2 (us := us) hl (show (quT[10]?).join = some 4 from rfl)).trans e4
    generalize frame quT a0 us = fr at *
    exact val_ok (v := .bool true) (w' := w') (by go_simp) hG (Below.refl _ _) rfl
  · refine step_guard [5] (by kernel_rfl) (j := 5) (t := 11) (b := true) rfl (by simp) rfl hl rfl (fun v w h => h) fun us w' hG hV => ?_
    have o1 := (frame_old2 (us := us) (a := a0) (show (quT[1]?).join = none from rfl)).trans k1
    have hg1 := gr_rowO hG R2.out
    generalize frame quT a0 us = fr at *
    exact load_ok 27 1 rfl (w.heap.size) o1 _ _ (0, 0) _ hg1 Tryd.underlying27 rfl IP.out hG rfl
  · refine step_guard [5, 6] (by kernel_rfl) (j := 5) (t := 11) (b := true) rfl (by simp) rfl hl rfl (fun v w h => h) fun us w' hG hV => ?_
    have e6 : us 6 = .agg CO := hV 6 (by simp)
    have v6 := (frame_at2 (us := us) hl (show (quT[12]?).join = some 6 from rfl)).trans e6
    generalize frame quT a0 us = fr at *
    exact call_ok (f := 20) (args := #[.agg CO]) (by go_simp) ((FT.out w' hG).mono fun e w'' ⟨A', c', h1, h2, h3, h4⟩ => ⟨_, h1, hG.below h4, h4, A', c', rfl, h3⟩)
  · refine step_guard [5] (by kernel_rfl) (j := 5) (t := 11) (b := true) rfl (by simp) rfl hl rfl (fun v w h => h) fun us w' hG hV => ?_
    have o1 := (frame_old2 (us := us) (a := a0) (show (quT[1]?).join = none from rfl)).trans k1
    have hg1 := gr_rowO hG R2.out
    generalize frame quT a0 us = fr at *
    exact load_ok 27 1 rfl (w.heap.size) o1 _ _ (0, 0) _ hg1 Tryd.underlying27 rfl IP.out hG rfl
  · refine step_guard [5, 8] (by kernel_rfl) (j := 5) (t := 11) (b := true) rfl (by simp) rfl hl rfl (fun v w h => h) fun us w' hG hV => ?_
    have e8 : us 8 = .agg CO := hV 8 (by simp)
    have v8 := (frame_at2 (us := us) hl (show (quT[14]?).join = some 8 from rfl)).trans e8
    generalize frame quT a0 us = fr at *
    exact call_ok (f := 21) (args := #[.agg CO]) (by go_simp) ((RT.out w' hG).mono fun e w'' ⟨A', c', h1, h2, h3, h4⟩ => ⟨_, h1, hG.below h4, h4, A', c', rfl, h3⟩)
  · refine step_guard [5, 7, 9] (by kernel_rfl) (j := 5) (t := 11) (b := true) rfl (by simp) rfl hl rfl (fun v w h => h) fun us w' hG hV => ?_
    obtain ⟨A7, c7, e7, P7⟩ := (show ∃ A' c', us 7 = .agg (optV FO A' m c') ∧ Prs w' w'.heap.size A' m FO.sk from hV 7 (by simp))
    have v7 := (frame_at2 (us := us) hl (show (quT[13]?).join = some 7 from rfl)).trans e7
    obtain ⟨A9, c9, e9, P9⟩ := (show ∃ A' c', us 9 = .agg (optV FO A' m c') ∧ Prs w' w'.heap.size A' m FO.sk from hV 9 (by simp))
    have v9 := (frame_at2 (us := us) hl (show (quT[15]?).join = some 9 from rfl)).trans e9
    generalize frame quT a0 us = fr at *
    exact call_ok (f := 17) (args := #[.agg (optV FO A7 m c7), .agg (optV FO A9 m c9)]) (by go_simp) ((SM.out A7 c7 A9 c9 w' P7 P9).mono fun e w'' h => ⟨_, h.1, hG.below h.2, h.2, rfl⟩)
  · refine step_plain [5, 10] (by kernel_rfl) rfl fun us w' hG hV => ?_
    have e5 : us 5 = .bool true := hV 5 (by simp)
    have v5 := (frame_at2 (us := us) hl (show (quT[11]?).join = some 5 from rfl)).trans e5
    have e10 : us 10 = .bool true := hV 10 (by simp)
    have v10 := (frame_at2 (us := us) hl (show (quT[16]?).join = some 10 from rfl)).trans e10
    generalize frame quT a0 us = fr at *
    exact val_ok (v := .bool true) (w' := w') (by go_simp) hG (Below.refl _ _) rfl
  · refine step_plain [11] (by kernel_rfl) rfl fun us w' hG hV => ?_
    have e11 : us 11 = .bool true := hV 11 (by simp)
    have v11 := (frame_at2 (us := us) hl (show (quT[17]?).join = some 11 from rfl)).trans e11
    generalize frame quT a0 us = fr at *
    exact val_ok (v := .bool true) (w' := w') (by go_simp) hG (Below.refl _ _) rfl
  · refine step_guard [12] (by kernel_rfl) (j := 12) (t := 18) (b := true) rfl (by simp) rfl hl rfl (fun v w h => h) fun us w' hG hV => ?_
    generalize frame quT a0 us = fr at *
    exact call_ok (f := 9) (args := #[]) (by go_simp) ((AL.out w' hG).mono fun e w'' h => ⟨_, h.1, hG.below h.2, h.2, rfl⟩)
  · refine step_plain [12, 13] (by kernel_rfl) rfl fun us w' hG hV => ?_
    have e12 : us 12 = .bool true := hV 12 (by simp)
    have v12 := (frame_at2 (us := us) hl (show (quT[18]?).join = some 12 from rfl)).trans e12
    have e13 : us 13 = .bool true := hV 13 (by simp)
    have v13 := (frame_at2 (us := us) hl (show (quT[19]?).join = some 13 from rfl)).trans e13
    generalize frame quT a0 us = fr at *
    exact val_ok (v := .bool true) (w' := w') (by go_simp) hG (Below.refl _ _) rfl
  · refine step_plain [14] (by kernel_rfl) rfl fun us w' hG hV => ?_
    have e14 : us 14 = .bool true := hV 14 (by simp)
    have v14 := (frame_at2 (us := us) hl (show (quT[20]?).join = some 14 from rfl)).trans e14
    generalize frame quT a0 us = fr at *
    exact val_ok (v := .bool true) (w' := w') (by go_simp) hG (Below.refl _ _) rfl
  · intro us w' hG hV
    have eL : us 15 = .bool true := hV 15 (by decide)
    subst ha0
    simp only [frame, quT, fill]
    rw [eL]
    go_wp2_with fail
    go_ret
    exact ⟨rfl, HB2.out.trans (hG.mono HB2.out.size)⟩
end Go.Proofs.YtapcjgmijcpfiaaDoor.opC
