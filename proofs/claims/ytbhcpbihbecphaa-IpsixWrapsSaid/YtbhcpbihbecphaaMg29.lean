/-
  2 texts of a proof, joined.
-/
import Derived.Test.YtbhcpbihbecphaaMg28
import Derived.Test.YtbhcpbihbecphaaRows
import Derived.WalkKit
import Derived.ProofKit
import Derived.OpenShut
import Derived.ShutString
import Derived.ChangeOld
import Derived.Below

/-
  The walk of IpsixAgain.
-/
namespace Go.Proofs.Ytbhcpbihbecphaa.sxC
open Go.ChangeShapes Go.WideShapes Go.ChangeAt Go.RowKit
open Go.Proofs.Ytbhcpbihbecphaa.memC Go.Proofs.Ytbhcpbihbecphaa.genC Go.Proofs.Ytbhcpbihbecphaa.butC Go.Proofs.Ytbhcpbihbecphaa.freeC Go.Proofs.Ytbhcpbihbecphaa.adC Go.Proofs.Ytbhcpbihbecphaa.pkC
set_option linter.unusedVariables false
def hopP (p : Pkt) (h : Int) : Pkt := { p with hops := h }
theorem pktV_hops {p : Pkt} (hp : p.Ok) (A : Option Addr) (n c : Nat) (h : Int) : (pktV p A n c).setIfInBounds 35 (.int .u8 h) = pktV (hopP p h) A n c := by
  unfold pktV
  rw [List.setIfInBounds_toArray]
  congr 1
  unfold pktL
  have l1 := adrC_len (s := p.s) hp.la
  have l2 := adrC_len (s := p.t) hp.lb
  rw [List.set_append_right _ _ (by omega), List.set_append_right _ _ (by omega), l1, l2]
  rfl
theorem zPkt_built : Try.prog.built 28 [] = some (pktV zPkt none 0 0) := by kernel_rfl
set_option maxRecDepth 100000 in
set_option maxHeartbeats 4000000 in
theorem again_walk (A : Option Addr) (n c : Nat) (bs : List Int) (w : World) (hb : Nums .u8 w w.heap.size A n bs) (hy : ∀ x ∈ bs, Byte x) (hn : n ≤ 9223372036854775807) (hnc : n ≤ c) (hcm : c ≤ 9223372036854775807) :
    Calls Try.prog 7 #[.slice A n c] w (Ret w (.bool true)) := by
  have hzv := zeroPkt
  have HB_w := Lib.hid (Below.refl w.heap.size w)
  by_cases h1 : 3000 < n
  · have q1 : (3000 : Int) < (n : Int) := by omega
    clear hb hy h1
    go_enter Try.func7, Try.ntmps7
    go_wp2_with (first
      | (go_at_call 10; (refine (alive_any _).mono ?_); rintro e w9 ⟨rfl, BB⟩
         have HB_w9 := Lib.hid (HB_w.out.trans (BB.mono HB_w.out.size))
         clear BB))
    go_ret
    exact ⟨rfl, HB_w9.out⟩
  have q1 : decide ((3000 : Int) < (n : Int)) = false := decide_eq_false (by omega)
  have hok := psP_ok hy
  have hxb := psX_byte hy
  have PC := Lib.hid (cparse_any A n c bs w hb hy (by omega))
  unfold PsR at PC
  have PK := Lib.hid (fun (p : Pkt) (hp : p.Ok) B m d => And.intro (pkC hp B m d).info (And.intro (show (pktV zPkt none 0 0).size = (pktV p B m d).size by rw [(pkC zPkt_ok none 0 0).size, (pkC hp B m d).size]) (pkt_one p B m d)))
  have ZB := Lib.hid zPkt_built
  have hlb := hb.len
  by_cases h0 : psE bs = 0
  rotate_left
  · have e1 : psP bs = zPkt := by unfold psP; rw [if_neg h0]
    have e2 : psX bs = [] := by unfold psX; rw [if_neg h0]
    rw [e1, e2] at PC
    have SC := Lib.hid (fun w' B m d (hx : Nums .u8 w' w'.heap.size B m []) => (show Calls Try.prog 19 #[.agg (pktV zPkt B m d), .agg (pktV zPkt none 0 0)] w' (Ret w' (.bool true)) by
      have h2 := rsame_any zPkt zPkt B none m d 0 0 [] [] w' zPkt_ok zPkt_ok hx (Nums.none_ 0) (by simp) (by simp)
      rw [sameB_iff.2 ⟨rfl, rfl⟩] at h2
      exact h2))
    have hz := zPkt_ok
    generalize hZ : pktV zPkt none 0 0 = Z at *
    generalize psE bs = er at *
    have hq : (er == 0) = false := beq_eq_false_iff_ne.2 h0
    clear hb hy h1 hok hxb e1 e2 h0 hlb
    go_enter Try.func7, Try.ntmps7
    go_upto_region 4 with (first
      | (go_at_call 15; (refine (PC.out).mono ?_); rintro e v1 ⟨A1, n1, c1, rfl, Nq, BB⟩
         have PQ_v1 := Lib.hid (PK.out zPkt hz A1 n1 c1)
         have NQ_v1 := Lib.hid Nq
         have HB_v1 := Lib.hid (HB_w.out.trans (BB.mono HB_w.out.size))
         have HN_v1 := Lib.hid (show (v1.alloc (.cells Z 28)).heap[v1.heap.size]? = some (.cells Z 28 (0, 0)) from heap_alloc_new _ _)
         clear BB Nq)
      | (refine wpList_store_row rfl 28 (.tmp 3) (.tmp 20) rfl v1.heap.size (pktV zPkt A1 n1 c1) rfl rfl _ _ HN_v1.out PQ_v1.out.1 PQ_v1.out.2.1 PQ_v1.out.2.2 ?_))
    rw [World.setRow_alloc_new]
    have BA := Lib.hid (alloc_below v1 (.cells (pktV zPkt A1 n1 c1) 28))
    have HB_W1 := Lib.hid (show Below w.heap.size w (v1.alloc (.cells (pktV zPkt A1 n1 c1) 28)) from HB_v1.out.trans (BA.out.mono HB_v1.out.size))
    have NP_W1 := Lib.hid ((NQ_v1.out.below BA.out).more BA.out.size)
    have RP_W1 := Lib.hid (show (v1.alloc (.cells (pktV zPkt A1 n1 c1) 28)).heap[v1.heap.size]? = some (.cells (pktV zPkt A1 n1 c1) 28 (0, 0)) from heap_alloc_new _ _)
    have GNP_g1 := Lib.hid (NQ_v1.out.below BA.out)
    have HBg_g1 := Lib.hid (show w.heap.size ≤ v1.heap.size from HB_v1.out.size)
    clear BA HB_v1 HN_v1 NQ_v1
    generalize v1.heap.size = g1 at *
    generalize (v1.alloc (.cells (pktV zPkt A1 n1 c1) 28)) = W1 at *
    have P_g1 := PQ_v1
    clear PQ_v1
    have S5 := Lib.hid (SC.out _ _ _ c1 NP_W1.out)
    go_wp2_with (first
      | (with_reducible refine atC.at_load 28 3 ?_; refine wpList_load_rowG (by kernel_rfl) 28 (.tmp 3) rfl g1 (by kernel_rfl) _ _ _ _ RP_W1.out Try.underlying28 rfl P_g1.out.1 ?_)
      | (refine wpList_zero rfl 28 rfl Z ZB.out ?_)
      | (go_at_call 19; (refine S5.out.mono ?_); rintro e W7 ⟨rfl, BB⟩
         have HB_W7 := Lib.hid (HB_W1.out.trans (BB.mono HB_W1.out.size))
         clear BB)
      | (go_at_call 10; (refine (alive_any _).mono ?_); rintro e w9 ⟨rfl, BB⟩
         have HB_w9 := Lib.hid (HB_W7.out.trans (BB.mono HB_W7.out.size))
         clear BB))
    go_ret
    exact ⟨rfl, HB_w9.out⟩
  obtain ⟨o6, p1, p2, p3⟩ := parse_again hy h0
  have e1 : psP bs = pkOf bs := by unfold psP; rw [if_pos h0]
  have e2 : psX bs = (hdOf bs).rest := by unfold psX; rw [if_pos h0]
  have e7 : (psP bs).hops = bs.getD 7 0 := by rw [e1]; rfl
  have o9 := psX_bd h0
  rw [h0] at PC
  have HC := Lib.hid (fun w' (h : Below w.heap.size w w') => chop_any A n c bs w' ((hb.below h).more h.size) hy (by omega) hnc hcm)
  unfold HpR at HC
  have hop : ∀ v, v = bs.getD 7 0 - 1 → 2 ≤ bs.getD 7 0 → psE (hpL bs) = 0 ∧ psP (hpL bs) = hopP (psP bs) v ∧ psX (hpL bs) = psX bs := fun v hv h7 => by
    obtain ⟨a1, a2, a3⟩ := hop_read h0 h7 v hv
    refine ⟨a1, ?_, ?_⟩
    · unfold psP; rw [if_pos a1, if_pos h0, a2]; rfl
    · unfold psX; rw [if_pos a1, if_pos h0, a3]
  have hdl : (hpL bs).length = n := by unfold hpL; rw [List.length_set, hlb]
  have hhy := hpX_byte hy
  have hE0 : hpE bs = if bs.getD 7 0 < 2 then 1 else 0 := by unfold hpE; rw [if_neg (fun q => q h0)]
  rw [← e7] at hop hE0
  have hho := hok.hops
  unfold Byte at hho
  have hXd : hpX bs = if hpE bs = 0 then hpL bs else [] := rfl
  clear e1 e2 e7
  obtain ⟨k, hk⟩ : ∃ k, k = (psX bs).length := ⟨_, rfl⟩
  rw [← hk] at o6 p1 p2 p3 o9
  have hkr := hk.symm
  have ee : layE (psP bs) k = 0 := by unfold layE; rw [if_pos o6]
  have hbl := layL_len hok hkr o6
  have hbb := layL_byte hok (n := k) hxb
  have hk8 : cutN (psP bs) ≤ 8 := by unfold cutN; split <;> omega
  have LC := Lib.hid (fun w' B d (hx : Nums .u8 w' w'.heap.size B k (psX bs)) => clay_any (psP bs) B k d (psX bs) w' hok hx hxb (by omega) (fun _ => by omega))
  rw [ee] at LC
  have MC := Lib.hid (fun w' B d => cmay_any (psP bs) B k d w' hok (by omega))
  rw [o6] at MC
  have SC := Lib.hid (fun w' A B n c m d (hx : Nums .u8 w' w'.heap.size A n (psX bs)) (hy : Nums .u8 w' w'.heap.size B m (psX bs)) => (show Calls Try.prog 19 #[.agg (pktV (psP bs) A n c), .agg (pktV (psP bs) B m d)] w' (Ret w' (.bool true)) by
    have h2 := rsame_any (psP bs) (psP bs) A B n c m d (psX bs) (psX bs) w' hok hok hx hy hxb hxb
    rw [sameB_iff.2 ⟨rfl, rfl⟩] at h2
    exact h2))
  have PC2 := Lib.hid (fun w' A n' c (hb : Nums .u8 w' w'.heap.size A n' (layL (psP bs) k (psX bs))) (hn : n' ≤ 9000) => cparse_any A n' c _ w' hb hbb hn)
  unfold PsR at PC2
  rw [p1, p2, p3] at PC2
  have PC3 := Lib.hid (fun w' A n' c (h0 : hpE bs = 0) (hb : Nums .u8 w' w'.heap.size A n' (hpL bs)) (hn : n' ≤ 9000) => cparse_any A n' c _ w' hb (by rw [hXd, if_pos h0] at hhy; exact hhy) hn)
  unfold PsR at PC3
  have hPK := Lib.hid (PK.out (psP bs) hok)
  have BL := Lib.hid hbl
  have K9 := Lib.hid (show k ≤ 3000 ∧ n ≤ 3000 by omega)
  have hkn := Lib.hid hkr
  generalize hpL bs = DS at *
  generalize hpX bs = dx at *
  generalize hpE bs = eh at *
  generalize layL (psP bs) k (psX bs) = BS at *
  generalize cutN (psP bs) = cu at *
  have HK8 := Lib.hid hk8
  generalize psP bs = p at *
  generalize psX bs = xs at *
  generalize bs.getD 7 0 = b7 at *
  clear h0 hb hy h1 hlb o6 p1 p2 p3 o9 ee hbl hbb hk8
  by_cases hh : p.hops < 2
  · rw [if_pos hh] at hE0
    subst hE0
    rw [if_neg (by decide)] at hXd
    subst hXd
    have K35 := Lib.hid (fun (w' : World) (g : Nat) B m d (R : w'.heap[g]? = some (.cells (pktV p B m d) 28 (0, 0))) => PkC.cell R (pkC hok B m d).hops)
    generalize hZ : pktV zPkt none 0 0 = Z at *
    generalize p.hops = hp at *
    clear hok hxb hho hk hkr hop hdl hhy PC3
    go_enter Try.func7, Try.ntmps7
    go_upto_region 4 with (first
      | (go_at_call 15; (refine (PC.out).mono ?_); rintro e v1 ⟨A1, n1, c1, rfl, Nq, BB⟩
         have PQ_v1 := Lib.hid (hPK.out A1 n1 c1)
         have NQ_v1 := Lib.hid Nq
         have HB_v1 := Lib.hid (HB_w.out.trans (BB.mono HB_w.out.size))
         have HN_v1 := Lib.hid (show (v1.alloc (.cells Z 28)).heap[v1.heap.size]? = some (.cells Z 28 (0, 0)) from heap_alloc_new _ _)
         clear BB Nq)
      | (refine wpList_store_row rfl 28 (.tmp 3) (.tmp 20) rfl v1.heap.size (pktV p A1 n1 c1) rfl rfl _ _ HN_v1.out PQ_v1.out.1 PQ_v1.out.2.1 PQ_v1.out.2.2 ?_))
    rw [World.setRow_alloc_new]
    have BA := Lib.hid (alloc_below v1 (.cells (pktV p A1 n1 c1) 28))
    have HB_W1 := Lib.hid (show Below w.heap.size w (v1.alloc (.cells (pktV p A1 n1 c1) 28)) from HB_v1.out.trans (BA.out.mono HB_v1.out.size))
    have NP_W1 := Lib.hid ((NQ_v1.out.below BA.out).more BA.out.size)
    have RP_W1 := Lib.hid (show (v1.alloc (.cells (pktV p A1 n1 c1) 28)).heap[v1.heap.size]? = some (.cells (pktV p A1 n1 c1) 28 (0, 0)) from heap_alloc_new _ _)
    have GNP_g1 := Lib.hid (NQ_v1.out.below BA.out)
    have HBg_g1 := Lib.hid (show w.heap.size ≤ v1.heap.size from HB_v1.out.size)
    clear BA HB_v1 HN_v1 NQ_v1
    generalize v1.heap.size = g1 at *
    generalize (v1.alloc (.cells (pktV p A1 n1 c1) 28)) = W1 at *
    have P_g1 := PQ_v1
    clear PQ_v1
    have hnk : n1 = k := by rw [← NP_W1.out.len, hkn.out]
    subst hnk
    go_upto_region 7 with (first
      | (with_reducible refine atC.at_load 28 3 ?_; refine wpList_load_rowG (by kernel_rfl) 28 (.tmp 3) rfl g1 (by kernel_rfl) _ _ _ _ RP_W1.out Try.underlying28 rfl P_g1.out.1 ?_)
      | (go_at_call 11; (refine (LC.out _ _ _ NP_W1.out).mono ?_); rintro e W2 ⟨A2, n2, c2, rfl, O2, BB⟩
         have NB_W2 := Lib.hid O2.nums
         have hn2 := O2.len
         rw [BL.out] at hn2
         have HN2 := Lib.hid (show n2 ≤ 9000 by have := K9.out; have := HK8.out; omega)
         have HB_W2 := Lib.hid (HB_W1.out.trans (BB.mono HB_W1.out.size))
         have NP_W2 := Lib.hid ((NP_W1.out.below BB).more BB.size)
         have RP_W2 := Lib.hid (show W2.heap[g1]? = some (.cells (pktV p A1 n1 c1) 28 (0, 0)) by rw [BB.block _ (lt_of_row RP_W1.out)]; exact RP_W1.out)
         clear BB O2 hn2))
    clear NP_W1 RP_W1 HB_W1
    go_upto_region 8 with (first
      | (go_at_call 15; (refine (PC2.out _ _ _ _ NB_W2.out HN2.out).mono ?_); rintro e v4 ⟨Aq, nq, cq, rfl, Nq, BB⟩
         have PQ_v4 := Lib.hid (hPK.out Aq nq cq)
         have NQ_v4 := Lib.hid Nq
         have HB_v4 := Lib.hid (HB_W2.out.trans (BB.mono HB_W2.out.size))
         have RP_v4 := Lib.hid (show v4.heap[g1]? = some (.cells (pktV p A1 n1 c1) 28 (0, 0)) by rw [BB.block _ (lt_of_row RP_W2.out)]; exact RP_W2.out)
         have NP_v4 := Lib.hid ((NP_W2.out.below BB).more BB.size)
         have HN_v4 := Lib.hid (show (v4.alloc (.cells Z 28)).heap[v4.heap.size]? = some (.cells Z 28 (0, 0)) from heap_alloc_new _ _)
         clear BB Nq)
      | (refine wpList_store_row rfl 28 (.tmp 7) (.tmp 38) rfl v4.heap.size (pktV p Aq nq cq) rfl rfl _ _ HN_v4.out PQ_v4.out.1 PQ_v4.out.2.1 PQ_v4.out.2.2 ?_))
    rw [World.setRow_alloc_new]
    have BA := Lib.hid (alloc_below v4 (.cells (pktV p Aq nq cq) 28))
    have HB_W3 := Lib.hid (show Below w.heap.size w (v4.alloc (.cells (pktV p Aq nq cq) 28)) from HB_v4.out.trans (BA.out.mono HB_v4.out.size))
    have RP_W3 := Lib.hid (show (v4.alloc (.cells (pktV p Aq nq cq) 28)).heap[g1]? = some (.cells (pktV p A1 n1 c1) 28 (0, 0)) by rw [BA.out.block _ (lt_of_row RP_v4.out)]; exact RP_v4.out)
    have NP_W3 := Lib.hid ((NP_v4.out.below BA.out).more BA.out.size)
    have NQ_W3 := Lib.hid ((NQ_v4.out.below BA.out).more BA.out.size)
    have RQ_W3 := Lib.hid (show (v4.alloc (.cells (pktV p Aq nq cq) 28)).heap[v4.heap.size]? = some (.cells (pktV p Aq nq cq) 28 (0, 0)) from heap_alloc_new _ _)
    have LT_RP_g2 := Lib.hid (show g1 < v4.heap.size from lt_of_row RP_v4.out)
    have GNP_g2 := Lib.hid (NP_v4.out.below BA.out)
    have GNQ_g2 := Lib.hid (NQ_v4.out.below BA.out)
    have HBg_g2 := Lib.hid (show w.heap.size ≤ v4.heap.size from HB_v4.out.size)
    clear BA HB_v4 HN_v4 NQ_v4 RP_v4 NP_v4
    generalize v4.heap.size = g2 at *
    generalize (v4.alloc (.cells (pktV p Aq nq cq) 28)) = W3 at *
    have P_g2 := PQ_v4
    clear PQ_v4
    clear NP_W2 RP_W2 HB_W2 NB_W2
    go_upto_region 10 with (first
      | (with_reducible refine atC.at_load 28 3 ?_; refine wpList_load_rowG (by kernel_rfl) 28 (.tmp 3) rfl g1 (by kernel_rfl) _ _ _ _ RP_W3.out Try.underlying28 rfl P_g1.out.1 ?_)
      | (with_reducible refine atC.at_load 28 3 ?_; refine wpList_load_rowG (by kernel_rfl) 28 (.tmp 3) rfl g1 (by kernel_rfl) _ _ _ _ RP_W4.out Try.underlying28 rfl P_g1.out.1 ?_)
      | (with_reducible refine atC.at_load 28 7 ?_; refine wpList_load_rowG (by kernel_rfl) 28 (.tmp 7) rfl g2 (by kernel_rfl) _ _ _ _ RQ_W4.out Try.underlying28 rfl P_g2.out.1 ?_)
      | (go_at_call 13; (refine (MC.out _ _ _).mono ?_); rintro e W4 ⟨rfl, BB⟩
         have HB_W4 := Lib.hid (HB_W3.out.trans (BB.mono HB_W3.out.size))
         have NP_W4 := Lib.hid ((NP_W3.out.below BB).more BB.size)
         have NQ_W4 := Lib.hid ((NQ_W3.out.below BB).more BB.size)
         have RP_W4 := Lib.hid (show W4.heap[g1]? = some (.cells (pktV p A1 n1 c1) 28 (0, 0)) by rw [BB.block _ (lt_of_row RP_W3.out)]; exact RP_W3.out)
         have RQ_W4 := Lib.hid (show W4.heap[g2]? = some (.cells (pktV p Aq nq cq) 28 (0, 0)) by rw [BB.block _ (lt_of_row RQ_W3.out)]; exact RQ_W3.out)
         have S4 := Lib.hid (SC.out _ _ _ _ c1 _ cq NP_W4.out NQ_W4.out)
         clear BB)
      | (go_at_call 19; (refine S4.out.mono ?_); rintro e W6 ⟨rfl, BB⟩
         have HB_W6 := Lib.hid (HB_W4.out.trans (BB.mono HB_W4.out.size))
         have NP_W6 := Lib.hid ((NP_W4.out.below BB).more BB.size)
         have RP_W6 := Lib.hid (show W6.heap[g1]? = some (.cells (pktV p A1 n1 c1) 28 (0, 0)) by rw [BB.block _ (lt_of_row RP_W4.out)]; exact RP_W4.out)
         clear BB))
    clear NP_W3 NQ_W3 RP_W3 RQ_W3 HB_W3 NP_W4 NQ_W4 RP_W4 RQ_W4 HB_W4 S4
    go_upto_region 11 with (first
      | (go_at_call 17; (refine (HC.out _ HB_W6.out).mono ?_); rintro e W5 ⟨Ah, nh, ch, rfl, Nh, BB⟩
         have ND_W5 := Lib.hid Nh
         have HB_W5 := Lib.hid (HB_W6.out.trans (BB.mono HB_W6.out.size))
         have NP_W5 := Lib.hid ((NP_W6.out.below BB).more BB.size)
         have RP_W5 := Lib.hid (show W5.heap[g1]? = some (.cells (pktV p A1 n1 c1) 28 (0, 0)) by rw [BB.block _ (lt_of_row RP_W6.out)]; exact RP_W6.out)
         clear BB Nh))
    clear NP_W6 RP_W6 HB_W6
    have k35 := K35.out _ _ _ _ _ RP_W5.out
    go_wp2_with (first
      | (go_at_call 10; (refine (alive_any _).mono ?_); rintro e w9 ⟨rfl, BB⟩
         have HB_w9 := Lib.hid (HB_W5.out.trans (BB.mono HB_W5.out.size))
         clear BB))
    go_ret
    exact ⟨rfl, HB_w9.out⟩
  rw [if_neg hh] at hE0
  subst hE0
  rw [if_pos rfl] at hXd
  subst hXd
  obtain ⟨r1, r2, r3⟩ := hop (p.hops - 1) rfl (by omega)
  rw [r1, r2, r3] at PC3
  have hok' : (hopP p (p.hops - 1)).Ok := ⟨hok.la, hok.lb, hok.ya, hok.yb, hok.proto, by show 0 ≤ p.hops - 1 ∧ p.hops - 1 ≤ 255; omega, hok.id, hok.off⟩
  have hPK3 := Lib.hid (PK.out _ hok')
  have K35 := Lib.hid (fun (w' : World) (g : Nat) B m d (R : w'.heap[g]? = some (.cells (pktV (hopP p (p.hops - 1)) B m d) 28 (0, 0))) => (show w'.cell? ⟨g, 35, none⟩ = some (.int .u8 (p.hops - 1)) from PkC.cell R (pkC hok' B m d).hops))
  have SET := Lib.hid (fun B m d => (show (pktV (hopP p (p.hops - 1)) B m d).setIfInBounds 35 (.int .u8 p.hops) = pktV p B m d from pktV_hops hok' B m d p.hops))
  have DL := Lib.hid hdl
  have hpw : IntKind.u8.wrap (p.hops - 1 + 1) = p.hops := by rw [Int.sub_add_cancel]; exact IntWalk.u8_in _ (by omega)
  have hpm : (p.hops - 1 + 1) % 256 = p.hops := by omega
  generalize hZ : pktV zPkt none 0 0 = Z at *
  generalize hopP p (p.hops - 1) = p' at *
  obtain ⟨hp, hhp⟩ : ∃ h, h = p.hops := ⟨_, rfl⟩
  rw [← hhp] at K35 SET hpw hpm
  have hm0 : 0 ≤ hp - 1 := by omega
  have hm1 : hp - 1 ≤ 254 := by omega
  clear hok hxb hho hk hkr r1 r2 r3 hdl hok' hhp hh hop hhy
  go_enter Try.func7, Try.ntmps7
  go_upto_region 4 with (first
    | (go_at_call 15; (refine (PC.out).mono ?_); rintro e v1 ⟨A1, n1, c1, rfl, Nq, BB⟩
       have PQ_v1 := Lib.hid (hPK.out A1 n1 c1)
       have NQ_v1 := Lib.hid Nq
       have HB_v1 := Lib.hid (HB_w.out.trans (BB.mono HB_w.out.size))
       have HN_v1 := Lib.hid (show (v1.alloc (.cells Z 28)).heap[v1.heap.size]? = some (.cells Z 28 (0, 0)) from heap_alloc_new _ _)
       clear BB Nq)
    | (refine wpList_store_row rfl 28 (.tmp 3) (.tmp 20) rfl v1.heap.size (pktV p A1 n1 c1) rfl rfl _ _ HN_v1.out PQ_v1.out.1 PQ_v1.out.2.1 PQ_v1.out.2.2 ?_))
  rw [World.setRow_alloc_new]
  have BA := Lib.hid (alloc_below v1 (.cells (pktV p A1 n1 c1) 28))
  have HB_W1 := Lib.hid (show Below w.heap.size w (v1.alloc (.cells (pktV p A1 n1 c1) 28)) from HB_v1.out.trans (BA.out.mono HB_v1.out.size))
  have NP_W1 := Lib.hid ((NQ_v1.out.below BA.out).more BA.out.size)
  have RP_W1 := Lib.hid (show (v1.alloc (.cells (pktV p A1 n1 c1) 28)).heap[v1.heap.size]? = some (.cells (pktV p A1 n1 c1) 28 (0, 0)) from heap_alloc_new _ _)
  have GNP_g1 := Lib.hid (NQ_v1.out.below BA.out)
  have HBg_g1 := Lib.hid (show w.heap.size ≤ v1.heap.size from HB_v1.out.size)
  clear BA HB_v1 HN_v1 NQ_v1
  generalize v1.heap.size = g1 at *
  generalize (v1.alloc (.cells (pktV p A1 n1 c1) 28)) = W1 at *
  have P_g1 := PQ_v1
  clear PQ_v1
  have hnk : n1 = k := by rw [← NP_W1.out.len, hkn.out]
  subst hnk
  go_upto_region 7 with (first
    | (with_reducible refine atC.at_load 28 3 ?_; refine wpList_load_rowG (by kernel_rfl) 28 (.tmp 3) rfl g1 (by kernel_rfl) _ _ _ _ RP_W1.out Try.underlying28 rfl P_g1.out.1 ?_)
    | (go_at_call 11; (refine (LC.out _ _ _ NP_W1.out).mono ?_); rintro e W2 ⟨A2, n2, c2, rfl, O2, BB⟩
       have NB_W2 := Lib.hid O2.nums
       have hn2 := O2.len
       rw [BL.out] at hn2
       have HN2 := Lib.hid (show n2 ≤ 9000 by have := K9.out; have := HK8.out; omega)
       have HB_W2 := Lib.hid (HB_W1.out.trans (BB.mono HB_W1.out.size))
       have NP_W2 := Lib.hid ((NP_W1.out.below BB).more BB.size)
       have RP_W2 := Lib.hid (show W2.heap[g1]? = some (.cells (pktV p A1 n1 c1) 28 (0, 0)) by rw [BB.block _ (lt_of_row RP_W1.out)]; exact RP_W1.out)
       clear BB O2 hn2))
  clear NP_W1 RP_W1 HB_W1
  go_upto_region 8 with (first
    | (go_at_call 15; (refine (PC2.out _ _ _ _ NB_W2.out HN2.out).mono ?_); rintro e v4 ⟨Aq, nq, cq, rfl, Nq, BB⟩
       have PQ_v4 := Lib.hid (hPK.out Aq nq cq)
       have NQ_v4 := Lib.hid Nq
       have HB_v4 := Lib.hid (HB_W2.out.trans (BB.mono HB_W2.out.size))
       have RP_v4 := Lib.hid (show v4.heap[g1]? = some (.cells (pktV p A1 n1 c1) 28 (0, 0)) by rw [BB.block _ (lt_of_row RP_W2.out)]; exact RP_W2.out)
       have NP_v4 := Lib.hid ((NP_W2.out.below BB).more BB.size)
       have HN_v4 := Lib.hid (show (v4.alloc (.cells Z 28)).heap[v4.heap.size]? = some (.cells Z 28 (0, 0)) from heap_alloc_new _ _)
       clear BB Nq)
    | (refine wpList_store_row rfl 28 (.tmp 7) (.tmp 38) rfl v4.heap.size (pktV p Aq nq cq) rfl rfl _ _ HN_v4.out PQ_v4.out.1 PQ_v4.out.2.1 PQ_v4.out.2.2 ?_))
  rw [World.setRow_alloc_new]
  have BA := Lib.hid (alloc_below v4 (.cells (pktV p Aq nq cq) 28))
  have HB_W3 := Lib.hid (show Below w.heap.size w (v4.alloc (.cells (pktV p Aq nq cq) 28)) from HB_v4.out.trans (BA.out.mono HB_v4.out.size))
  have RP_W3 := Lib.hid (show (v4.alloc (.cells (pktV p Aq nq cq) 28)).heap[g1]? = some (.cells (pktV p A1 n1 c1) 28 (0, 0)) by rw [BA.out.block _ (lt_of_row RP_v4.out)]; exact RP_v4.out)
  have NP_W3 := Lib.hid ((NP_v4.out.below BA.out).more BA.out.size)
  have NQ_W3 := Lib.hid ((NQ_v4.out.below BA.out).more BA.out.size)
  have RQ_W3 := Lib.hid (show (v4.alloc (.cells (pktV p Aq nq cq) 28)).heap[v4.heap.size]? = some (.cells (pktV p Aq nq cq) 28 (0, 0)) from heap_alloc_new _ _)
  have LT_RP_g2 := Lib.hid (show g1 < v4.heap.size from lt_of_row RP_v4.out)
  have GNP_g2 := Lib.hid (NP_v4.out.below BA.out)
  have GNQ_g2 := Lib.hid (NQ_v4.out.below BA.out)
  have HBg_g2 := Lib.hid (show w.heap.size ≤ v4.heap.size from HB_v4.out.size)
  clear BA HB_v4 HN_v4 NQ_v4 RP_v4 NP_v4
  generalize v4.heap.size = g2 at *
  generalize (v4.alloc (.cells (pktV p Aq nq cq) 28)) = W3 at *
  have P_g2 := PQ_v4
  clear PQ_v4
  clear NP_W2 RP_W2 HB_W2 NB_W2
  go_upto_region 10 with (first
    | (with_reducible refine atC.at_load 28 3 ?_; refine wpList_load_rowG (by kernel_rfl) 28 (.tmp 3) rfl g1 (by kernel_rfl) _ _ _ _ RP_W3.out Try.underlying28 rfl P_g1.out.1 ?_)
    | (with_reducible refine atC.at_load 28 3 ?_; refine wpList_load_rowG (by kernel_rfl) 28 (.tmp 3) rfl g1 (by kernel_rfl) _ _ _ _ RP_W4.out Try.underlying28 rfl P_g1.out.1 ?_)
    | (with_reducible refine atC.at_load 28 7 ?_; refine wpList_load_rowG (by kernel_rfl) 28 (.tmp 7) rfl g2 (by kernel_rfl) _ _ _ _ RQ_W4.out Try.underlying28 rfl P_g2.out.1 ?_)
    | (go_at_call 13; (refine (MC.out _ _ _).mono ?_); rintro e W4 ⟨rfl, BB⟩
       have HB_W4 := Lib.hid (HB_W3.out.trans (BB.mono HB_W3.out.size))
       have NP_W4 := Lib.hid ((NP_W3.out.below BB).more BB.size)
       have NQ_W4 := Lib.hid ((NQ_W3.out.below BB).more BB.size)
       have RP_W4 := Lib.hid (show W4.heap[g1]? = some (.cells (pktV p A1 n1 c1) 28 (0, 0)) by rw [BB.block _ (lt_of_row RP_W3.out)]; exact RP_W3.out)
       have RQ_W4 := Lib.hid (show W4.heap[g2]? = some (.cells (pktV p Aq nq cq) 28 (0, 0)) by rw [BB.block _ (lt_of_row RQ_W3.out)]; exact RQ_W3.out)
       have S4 := Lib.hid (SC.out _ _ _ _ c1 _ cq NP_W4.out NQ_W4.out)
       clear BB)
    | (go_at_call 19; (refine S4.out.mono ?_); rintro e W6 ⟨rfl, BB⟩
       have HB_W6 := Lib.hid (HB_W4.out.trans (BB.mono HB_W4.out.size))
       have NP_W6 := Lib.hid ((NP_W4.out.below BB).more BB.size)
       have RP_W6 := Lib.hid (show W6.heap[g1]? = some (.cells (pktV p A1 n1 c1) 28 (0, 0)) by rw [BB.block _ (lt_of_row RP_W4.out)]; exact RP_W4.out)
       clear BB))
  clear NP_W3 NQ_W3 RP_W3 RQ_W3 HB_W3 NP_W4 NQ_W4 RP_W4 RQ_W4 HB_W4 S4
  go_upto_region 11 with (first
    | (go_at_call 17; (refine (HC.out _ HB_W6.out).mono ?_); rintro e W5 ⟨Ah, nh, ch, rfl, Nh, BB⟩
       have ND_W5 := Lib.hid Nh
       have HB_W5 := Lib.hid (HB_W6.out.trans (BB.mono HB_W6.out.size))
       have NP_W5 := Lib.hid ((NP_W6.out.below BB).more BB.size)
       have RP_W5 := Lib.hid (show W5.heap[g1]? = some (.cells (pktV p A1 n1 c1) 28 (0, 0)) by rw [BB.block _ (lt_of_row RP_W6.out)]; exact RP_W6.out)
       clear BB Nh))
  clear NP_W6 RP_W6 HB_W6
  go_upto_region 14 with (first
    | (go_at_call 15; (refine (PC3.out _ _ _ _ (by trivial) ND_W5.out (by have := ND_W5.out.len; have := DL.out; have := K9.out; omega)).mono ?_); rintro e v7 ⟨Ax, nx, cx, rfl, Nq, BB⟩
       have PQ_v7 := Lib.hid (hPK3.out Ax nx cx)
       have NQ_v7 := Lib.hid Nq
       have HB_v7 := Lib.hid (HB_W5.out.trans (BB.mono HB_W5.out.size))
       have RP_v7 := Lib.hid (show v7.heap[g1]? = some (.cells (pktV p A1 n1 c1) 28 (0, 0)) by rw [BB.block _ (lt_of_row RP_W5.out)]; exact RP_W5.out)
       have NP_v7 := Lib.hid ((NP_W5.out.below BB).more BB.size)
       have HN_v7 := Lib.hid (show (v7.alloc (.cells Z 28)).heap[v7.heap.size]? = some (.cells Z 28 (0, 0)) from heap_alloc_new _ _)
       clear BB Nq)
    | (refine wpList_store_row rfl 28 (.tmp 11) (.tmp 73) rfl v7.heap.size (pktV p' Ax nx cx) rfl rfl _ _ HN_v7.out PQ_v7.out.1 PQ_v7.out.2.1 PQ_v7.out.2.2 ?_))
  rw [World.setRow_alloc_new]
  have BA := Lib.hid (alloc_below v7 (.cells (pktV p' Ax nx cx) 28))
  have HB_W8 := Lib.hid (show Below w.heap.size w (v7.alloc (.cells (pktV p' Ax nx cx) 28)) from HB_v7.out.trans (BA.out.mono HB_v7.out.size))
  have RP_W8 := Lib.hid (show (v7.alloc (.cells (pktV p' Ax nx cx) 28)).heap[g1]? = some (.cells (pktV p A1 n1 c1) 28 (0, 0)) by rw [BA.out.block _ (lt_of_row RP_v7.out)]; exact RP_v7.out)
  have NP_W8 := Lib.hid ((NP_v7.out.below BA.out).more BA.out.size)
  have NX_W8 := Lib.hid ((NQ_v7.out.below BA.out).more BA.out.size)
  have RX_W8 := Lib.hid (show (v7.alloc (.cells (pktV p' Ax nx cx) 28)).heap[v7.heap.size]? = some (.cells (pktV p' Ax nx cx) 28 (0, 0)) from heap_alloc_new _ _)
  have LT_RP_g3 := Lib.hid (show g1 < v7.heap.size from lt_of_row RP_v7.out)
  have GNP_g3 := Lib.hid (NP_v7.out.below BA.out)
  have GNX_g3 := Lib.hid (NQ_v7.out.below BA.out)
  have HBg_g3 := Lib.hid (show w.heap.size ≤ v7.heap.size from HB_v7.out.size)
  clear BA HB_v7 HN_v7 NQ_v7 RP_v7 NP_v7
  generalize v7.heap.size = g3 at *
  generalize (v7.alloc (.cells (pktV p' Ax nx cx) 28)) = W8 at *
  have P_g3 := PQ_v7
  clear PQ_v7
  have k35 := K35.out _ _ _ _ _ RX_W8.out
  have f35 := frozen_of_row W8 g3 35 _ 28 RX_W8.out
  go_upto_region 15 with fail
  have B9 := Lib.hid (show Below g3 W8 (W8.setCell ⟨g3, 35, none⟩ (.int .u8 hp)) from (Below.refl g3 W8).setCell (p := ⟨g3, 35, none⟩) (Nat.le_refl _) (.int .u8 hp))
  have RX_W9 := Lib.hid (show (W8.setCell ⟨g3, 35, none⟩ (.int .u8 hp)).heap[g3]? = some (.cells (pktV p Ax nx cx) 28 (0, 0)) by rw [heap_setCell_same W8 g3 35 _ _ _ RX_W8.out, SET.out])
  have RP_W9 := Lib.hid (show (W8.setCell ⟨g3, 35, none⟩ (.int .u8 hp)).heap[g1]? = some (.cells (pktV p A1 n1 c1) 28 (0, 0)) by rw [B9.out.block _ LT_RP_g3.out]; exact RP_W8.out)
  have HB_W9 := Lib.hid (show Below w.heap.size w (W8.setCell ⟨g3, 35, none⟩ (.int .u8 hp)) from HB_W8.out.setCell (p := ⟨g3, 35, none⟩) HBg_g3.out _)
  have L9 := Lib.hid (Nat.le_trans (Nat.le_of_lt (lt_of_row RX_W8.out)) B9.out.size)
  have S9 := Lib.hid (SC.out _ _ _ _ cx _ c1 ((GNX_g3.out.below B9.out).more L9.out) ((GNP_g3.out.below B9.out).more L9.out))
  have I9 := Lib.hid (hPK.out Ax nx cx).1
  clear RX_W8 RP_W8 HB_W8 B9 L9 k35 f35 GNX_g3 GNP_g3 K35 SET hpw hpm
  generalize W8.setCell ⟨g3, 35, none⟩ (.int .u8 hp) = W9 at *
  generalize pktV p Ax nx cx = CX at *
  generalize pktV p A1 n1 c1 = CP at *
  go_wp2_with (first
    | (with_reducible refine atC.at_load 28 11 ?_; refine wpList_load_rowG (by kernel_rfl) 28 (.tmp 11) rfl g3 (by kernel_rfl) _ _ _ _ RX_W9.out Try.underlying28 rfl I9.out ?_)
    | (with_reducible refine atC.at_load 28 3 ?_; refine wpList_load_rowG (by kernel_rfl) 28 (.tmp 3) rfl g1 (by kernel_rfl) _ _ _ _ RP_W9.out Try.underlying28 rfl P_g1.out.1 ?_)
    | (go_at_call 19; (refine S9.out.mono ?_); rintro e W10 ⟨rfl, BB⟩
       have HB_W10 := Lib.hid (HB_W9.out.trans (BB.mono HB_W9.out.size))
       clear BB)
    | (go_at_call 10; (refine (alive_any _).mono ?_); rintro e w9 ⟨rfl, BB⟩
       have HB_w9 := Lib.hid (HB_W10.out.trans (BB.mono HB_W10.out.size))
       clear BB))
  go_ret
  exact ⟨rfl, HB_w9.out⟩
end Go.Proofs.Ytbhcpbihbecphaa.sxC

/-
  How the arguments of a statement are opened: an array of numbers, a slice of numbers.
-/
namespace Go.Proofs.Ytbhcpbihbecphaa.openC
open Go.ChangeShapes Go.WideShapes Go.ChangeAt Go.RowKit
set_option linter.unusedVariables false
variable {H : Type} {enc : TypeId × Value → H} {P : Program} {w : World} {base : Nat} {spare : Nat → Bool} {held : Bool}

theorem list2 {α : Type} {l : List α} (h : l.length = 2) : ∃ a b, l = [a, b] := by
  match l, h with
  | [a, b], _ => exact ⟨a, b, rfl⟩
theorem list3 {α : Type} {l : List α} (h : l.length = 3) : ∃ a b c, l = [a, b, c] := by
  match l, h with
  | [a, b, c], _ => exact ⟨a, b, c, rfl⟩
theorem list4 {α : Type} {l : List α} (h : l.length = 4) : ∃ a b c d, l = [a, b, c, d] := by
  match l, h with
  | [a, b, c, d], _ => exact ⟨a, b, c, d, rfl⟩
theorem open_array_ints {r : Reach} {b0 : Nat} {t e : TypeId} {n : Nat} {k : IntKind} {v : Value} {d : DataW H} {ps : List MemPlace} (ht : P.underlying t = some (.array n e)) (he : P.underlying e = some (.int k))
    (hce : P.cellsOf e = 1) (hct : P.cellsOf t = n) (hval : Value.okWide P w r b0 t v) (hd : DataW.Trod enc P w base spare held t v d ps) :
    ∃ zs : List Int, zs.length = n ∧ v = .agg (zs.map (Value.int k)).toArray ∧ ∀ x ∈ zs, (Lit.int k x).wf = true := by
  obtain ⟨cs, rfl, hsz, _⟩ : ∃ cs, v = .agg cs ∧ cs.size = P.cellsOf t ∧ Row.okWide P w r b0 t cs := by
    simpa [Value.okWide, ht] using hval
  obtain ⟨l⟩ := cs
  rw [hct] at hsz
  obtain ⟨fuel, hf⟩ := hd
  obtain ⟨xs, m, rfl, _, hl, hxl, hx⟩ := DataW.trod_array ht hf
  rw [hce] at hx
  have hsz' : l.length = n := by simpa using hsz
  have key : ∀ i, (hi : i < n) → ∃ z, l[i]? = some (.int k z) ∧ (Lit.int k z).wf = true := by
    intro i hi
    have h1 := hx i hi
    have hxi : xs[i]? = some (xs[i]'(by omega)) := List.getElem?_eq_getElem _
    rw [hxi] at h1
    obtain ⟨z, h2, _, h3⟩ := DataW.trod_int he h1
    refine ⟨z, ?_, h3⟩
    have h4 : ((Value.agg { toList := l }).cells.toList.drop (i * 1)).take 1 = [Value.int k z] := h2
    have h5 : (Value.agg { toList := l }).cells.toList = l := by simp [Value.cells]
    rw [h5, Nat.mul_one] at h4
    have h6 := congrArg (fun q => q[0]?) h4
    simpa using h6
  refine ⟨l.map fun v => match v with | .int _ z => z | _ => 0, by simpa using hsz', ?_, ?_⟩
  · congr 1
    simp only [List.map_map]
    congr 1
    apply List.ext_getElem?
    intro i
    by_cases hi : i < n
    · obtain ⟨z, hz, _⟩ := key i hi
      rw [List.getElem?_map, hz]; rfl
    · rw [List.getElem?_eq_none (by omega), List.getElem?_eq_none (by simp; omega)]
  · intro x hx
    obtain ⟨v, hv, rfl⟩ := List.mem_map.1 hx
    obtain ⟨i, hi, rfl⟩ := List.getElem_of_mem hv
    obtain ⟨z, hz, hw⟩ := key i (by omega)
    rw [List.getElem?_eq_getElem hi] at hz
    obtain hz := Option.some.inj hz
    rw [hz]; exact hw
/-- a slice of numbers that came in: of no number, or a row of cells -/
theorem open_slice_ints {r : Reach} {b0 : Nat} {t e : TypeId} {k : IntKind} {v : Value} {d : DataW H} {ps : List MemPlace} (ht : P.underlying t = some (.slice e)) (he : P.underlying e = some (.int k))
    (hce : P.cellsOf e = 1) (hsp : ∀ b, spare b = true) (hval : Value.okWide P w r b0 t v) (hd : DataW.Trod enc P w base spare held t v d ps) :
    (∃ a cap, v = .slice a 0 cap) ∨
    ∃ (b off len cap : Nat) (zs : List Int), v = .slice (some ⟨b, off, none⟩) len cap ∧ len ≤ cap ∧ cap ≤ maxLen ∧ zs.length = len ∧ (∀ i, i < len → w.cell? ⟨b, off + i, none⟩ = some (.int k (zs.getD i 0))) ∧ ∀ n ∈ zs, (Lit.int k n).wf = true := by
  obtain ⟨a, len, cap, rfl⟩ := okWide_slice ht hval
  obtain ⟨fuel, hf⟩ := hd
  rcases open_ints ht he hce hf with ⟨hcs, _⟩ | ⟨x, l, c, zs, hcs, _, hl, hm, hz, _, hcell, hwz⟩
  · simp [Value.cells] at hcs
    obtain ⟨rfl, rfl, rfl⟩ := hcs
    exact .inl ⟨_, _, rfl⟩
  · simp [Value.cells] at hcs
    obtain ⟨rfl, rfl, rfl⟩ := hcs
    by_cases h0 : len = 0
    · subst h0; exact .inl ⟨_, _, rfl⟩
    · rw [hsp, if_pos rfl] at hz
      obtain ⟨b, off, spot⟩ := x
      have hc := hcell 0 (by omega)
      have hspot : spot = none := by simpa [Addr.add] using World.cell?_spot hc
      subst hspot
      refine .inr ⟨b, off, len, cap, zs.take len, rfl, hl, hm, by simp; omega, ?_, fun n hn => hwz n (List.mem_of_mem_take hn)⟩
      intro i hi
      have h1 := hcell i (by omega)
      have h2 : (zs.take len).getD i 0 = zs.getD i 0 := by simp [List.getD_eq_getElem?_getD, hi]
      rw [h2]
      have e : (Addr.add ⟨b, off, none⟩ i) = (⟨b, off + i, none⟩ : Addr) := by
        unfold Addr.add; split
        · rename_i hi0; subst hi0; rfl
        · rfl
      rw [e] at h1; exact h1
end Go.Proofs.Ytbhcpbihbecphaa.openC
