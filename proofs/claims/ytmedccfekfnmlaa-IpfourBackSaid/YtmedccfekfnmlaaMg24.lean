/-
  3 texts of a proof, joined.
-/
import Derived.Test.YtmedccfekfnmlaaMg23
import Derived.Deep.CutRange
import Derived.StillTailTactics
import Derived.Test.YtmedccfekfnmlaaRows
import Derived.WalkKit
import Derived.ProofKit
import Derived.OpenShut
import Derived.ShutString
import Derived.ChangeOld
import Derived.Below

/-
  The walk of IpfourTurned.
-/
namespace Go.Proofs.Ytmedccfekfnmlaa.pkC
open Go.ChangeShapes Go.WideShapes Go.ChangeAt Go.RowKit
open Go.Proofs.Ytmedccfekfnmlaa.memC Go.Proofs.Ytmedccfekfnmlaa.genC Go.Proofs.Ytmedccfekfnmlaa.butC Go.Proofs.Ytmedccfekfnmlaa.freeC Go.Proofs.Ytmedccfekfnmlaa.adC
set_option linter.unusedVariables false
set_option maxRecDepth 100000 in
set_option maxHeartbeats 4000000 in
theorem turned_walk (p : Pkt) (A : Option Addr) (n c : Nat) (xs : List Int) (z : Int) (w : World) (hp : p.Ok) (hx : Nums .u8 w w.heap.size A n xs) (yx : ∀ x ∈ xs, Byte x) (hn : n ≤ 9223372036854775807)
    (z0 : -9223372036854775808 ≤ z) (z1 : z ≤ 9223372036854775807) :
    Calls Try.prog 6 #[.agg (pktV p A n c), .int .i64 z] w (Ret w (.bool true)) := by
  have hzv := zeroPkt
  obtain ⟨W, hW⟩ : ∃ W, W = w.alloc (.cells (pktV p A n c) 28) := ⟨_, rfl⟩
  have R0_W := Lib.hid (show W.heap[w.heap.size]? = some (.cells (pktV p A n c) 28 (0, 0)) by rw [hW]; exact heap_alloc_new w _)
  have HB_W := Lib.hid (show Below w.heap.size w W by rw [hW]; exact alloc_below _ _)
  have k0 := PkC.cell R0_W.out (pkC hp A n c).load
  have IP := Lib.hid (pkC hp A n c).info
  have LC0 := Lib.hid (fun w' (h : Below w.heap.size w w') (hfar : farB n = false) => clay_any p A n c xs w' hp ((hx.below h).more h.size) yx hn (far_may hfar))
  have F0 := Lib.hid (fun w' => far_any A n c w' hn)
  have hxl := hx.len
  by_cases hfar : farB n = true
  · rw [hfar] at F0
    generalize pktV p A n c = CP at *
    clear hp hx yx hxl hfar
    go_enter Try.func6, Try.ntmps6
    go_upto_region 1 with fail
    rw [← hW]
    clear hW
    go_wp2_with (first
      | (go_at_call 7; (refine (F0.out _).mono ?_); rintro e w2 ⟨rfl, hw⟩; obtain rfl := hw.symm)
      | (go_at_call 8; (refine (alive_any _).mono ?_); rintro e w5 ⟨rfl, BB⟩
         have HB_w5 := Lib.hid (HB_W.out.trans (BB.mono HB_W.out.size))
         clear BB))
    go_ret
    exact ⟨rfl, HB_w5.out⟩
  have hfar' : farB n = false := by cases h : farB n <;> simp_all
  have LC := Lib.hid (fun w' (h : Below w.heap.size w w') => LC0.out w' h hfar')
  clear LC0
  rw [hfar'] at F0
  by_cases hmay : mayB p n = true
  rotate_left
  · have hmay' : mayB p n = false := by cases h : mayB p n <;> simp_all
    have ev : layL p n xs = [] := by unfold layL; rw [hmay']; rfl
    have ee : layE p n = 1 := by unfold layE; rw [hmay']; rfl
    rw [ev, ee] at LC
    generalize pktV p A n c = CP at *
    clear hp hx yx hxl hfar hfar' hmay hmay' ev ee
    go_enter Try.func6, Try.ntmps6
    go_upto_region 1 with fail
    rw [← hW]
    clear hW
    go_upto_region 3 with (first
      | (go_at_call 7; (refine (F0.out _).mono ?_); rintro e w2 ⟨rfl, hw⟩; obtain rfl := hw.symm))
    go_upto_region 4 with (first
      | (refine wpList_load_rowG (by kernel_rfl) 28 (.tmp 2) rfl w.heap.size (by kernel_rfl) _ _ _ _ R0_W.out Try.underlying28 rfl IP.out ?_)
      | (go_at_call 9; (refine (LC.out _ HB_W.out).mono ?_); rintro e W2 ⟨A1, n1, c1, rfl, O1, BB⟩
         have HB_W2 := Lib.hid (HB_W.out.trans (BB.mono HB_W.out.size))
         clear BB O1))
    go_wp2_with (first
      | (go_at_call 8; (refine (alive_any _).mono ?_); rintro e w5 ⟨rfl, BB⟩
         have HB_w5 := Lib.hid (HB_W2.out.trans (BB.mono HB_W2.out.size))
         clear BB))
    go_ret
    exact ⟨rfl, HB_w5.out⟩
  have hn2 : n ≤ 2000 := by
    have h1 := mayB_pos hmay
    unfold farB at hfar'
    simp at hfar'
    omega
  have ee : layE p n = 0 := by unfold layE; rw [if_pos hmay]
  rw [ee] at LC
  have hbl := layL_len hp hxl hmay
  have hby := layL_byte hp (n := n) yx
  obtain ⟨r, t, hr, hr0, hr1, ht, ht2⟩ := chkC.place z 160 (by decide)
  obtain ⟨i, hi⟩ : ∃ i, i = t / 8 := ⟨_, rfl⟩
  obtain ⟨j, hj⟩ : ∃ j, j = t % 8 := ⟨_, rfl⟩
  have hi20 : i < 20 := by omega
  have hj8 : j < 8 := by omega
  have it : (t : Int).tdiv 8 = (i : Int) := by rw [Int.tdiv_eq_ediv_of_nonneg (by omega)]; omega
  have jt : (t : Int).tmod 8 = (j : Int) := by rw [Int.tmod_eq_emod_of_nonneg (by omega)]; omega
  have iw : IntKind.i64.wrap (i : Int) = (i : Int) := IntWalk.i64_in _ (by omega)
  obtain ⟨y, hy⟩ : ∃ y, y = (layL p n xs).getD i 0 := ⟨_, rfl⟩
  obtain ⟨y0, y1⟩ : Byte y := by rw [hy]; exact getD_byte hby (by rw [hbl]; omega)
  have FB := chkC.flip_bit (y := y) y0 y1 hj8
  obtain ⟨v, hv⟩ : ∃ v, v = bits .xor .u8 y ((2 : Int) ^ j) := ⟨_, rfl⟩
  have hvb : Byte v := by rw [hv]; exact FB.2
  have P8 := chkC.pow8 hj8
  have e2j : (2 : Int) ^ (min j 8) % 256 = 2 ^ j := by rw [Nat.min_eq_left (by omega)]; omega
  obtain ⟨BT, hBT⟩ : ∃ L, L = (layL p n xs).set i v := ⟨_, rfl⟩
  have hbt : ∀ x ∈ BT, Byte x := fun x h => by
    rw [hBT] at h
    rcases List.mem_or_eq_of_mem_set h with h | h
    · exact hby x h
    · rw [h]; exact hvb
  have hno : psE BT = 0 → ldOf BT ≠ xs := fun h => by
    have hm2 : mayB p xs.length = true := by rw [hxl]; exact hmay
    refine flip_head hp (xs := xs) hm2 (ck_good hp hm2) (ckL_bd _ _).1 (ckL_bd _ _).2 hi20 hj8 (bs := BT) ?_ h
    rw [hBT, hv, hy, hxl]
    unfold layL
    rw [if_pos hmay]
  have PC := Lib.hid (fun w' A n' c (hb : Nums .u8 w' w'.heap.size A n' BT) (hn : n' ≤ 9000) => cparse_any A n' c _ w' hb hbt hn)
  have SC := Lib.hid (fun w' B m d (h0 : psE BT = 0) (h : Below w.heap.size w w') (hy : Nums .u8 w' w'.heap.size B m (psX BT)) => (show Calls Try.prog 13 #[.agg (pktV p A n c), .agg (pktV (psP BT) B m d)] w' (Ret w' (.bool false)) by
    have h2 := csame_any p (psP BT) A B n c m d xs (psX BT) w' hp (psP_ok hbt) ((hx.below h).more h.size) hy yx (psX_byte hbt)
    have hs : sameB p xs (psP BT) (psX BT) = false := by
      cases hb : sameB p xs (psP BT) (psX BT) with
      | false => rfl
      | true =>
        have h3 := (sameB_iff.1 hb).2
        unfold psX at h3
        rw [if_pos h0] at h3
        exact absurd h3.symm (hno h0)
    rw [hs] at h2
    exact h2))
  have PK := Lib.hid (fun B m d => And.intro (pkC (psP_ok hbt) B m d).info (And.intro (show (pktV zPkt none 0 0).size = (pktV (psP BT) B m d).size by rw [(pkC zPkt_ok none 0 0).size, (pkC (psP_ok hbt) B m d).size]) (pkt_one (psP BT) B m d)))
  unfold PsR at PC
  have N2 := Lib.hid hn2
  have BL := Lib.hid hbl
  have HY := Lib.hid hy
  have HV := Lib.hid hv
  have HBT := Lib.hid hBT
  have HE := Lib.hid e2j
  generalize layL p n xs = BS at *
  generalize hZ : pktV zPkt none 0 0 = Z at *
  obtain ⟨CP, hCP⟩ : ∃ C, C = pktV p A n c := ⟨_, rfl⟩
  rw [← hCP] at R0_W IP LC hW SC ⊢
  generalize psP BT = pq at *
  generalize psX BT = xq at *
  obtain ⟨er, her⟩ : ∃ er, er = psE BT := ⟨_, rfl⟩
  rw [← her] at PC SC
  have ht160 : (r + 160).tmod 160 = (t : Int) := ht
  have hr160 : z.tmod 160 = r := hr
  have hr0' : -160 < r := hr0
  have hr1' : r < 160 := hr1
  have HI := Lib.hid hi20
  clear hp hx yx hxl hfar hfar' hmay ee hbl hby hn2 hZ hCP hi hj hy hv hvb FB P8 hBT hbt hno her ht hr hr0 hr1 e2j hi20 hj8
  go_enter Try.func6, Try.ntmps6
  go_upto_region 1 with fail
  rw [← hW]
  clear hW
  go_upto_region 3 with (first
    | (go_at_call 7; (refine (F0.out _).mono ?_); rintro e w2 ⟨rfl, hw⟩; obtain rfl := hw.symm))
  clear k0
  go_upto_region 4 with (first
    | (refine wpList_load_rowG (by kernel_rfl) 28 (.tmp 2) rfl w.heap.size (by kernel_rfl) _ _ _ _ R0_W.out Try.underlying28 rfl IP.out ?_)
    | (go_at_call 9; (refine (LC.out _ HB_W.out).mono ?_); rintro e W2 ⟨A1, n1, c1, rfl, O1, BB⟩
       have HO1 := Lib.hid O1
       have HB_W2 := Lib.hid (HB_W.out.trans (BB.mono HB_W.out.size))
       have BS2 := Lib.hid (show W.heap.size ≤ W2.heap.size from BB.size)
       have R0_W2 := Lib.hid (show W2.heap[w.heap.size]? = some (.cells CP 28 (0, 0)) by rw [BB.block _ (lt_of_row R0_W.out)]; exact R0_W.out)
       have R0L := Lib.hid (lt_of_row R0_W.out)
       have HWw := Lib.hid HB_W.out.size
       clear BB O1 R0_W HB_W))
  generalize W.heap.size = gW at *
  have hn1 : n1 = 20 + n := by rw [← HO1.out.len, BL.out]
  have q4 : decide ((n1 : Int) < 20) = false := decide_eq_false (by omega)
  have n1b : (n1 : Int) ≤ 2020 := by have := N2.out; omega
  have i1 : (i : Int) < (n1 : Int) := by have := HI.out; omega
  have HN1 := Lib.hid hn1
  clear hn1
  obtain ⟨g, eg, hg0, hg1, hgc, hgf⟩ := HO1.out.row (by have := HN1.out; omega)
  subst eg
  have gc1 := hgc i (by have := HN1.out; have := HI.out; omega)
  rw [← HY.out] at gc1
  have gf1 := hgf i
  have HG0 := Lib.hid hg0
  clear hgc hgf hg0
  go_upto_region 7 with fail
  go_still_tail 9, (by kernel_rfl)
  change wpList _ _ _ _ _ W2.drew
  go_upto_region 8 with fail
  rw [HE.out, ← HV.out]
  have O6 : Own .u8 5 (W2.setCell ⟨g, i, none⟩ (.int .u8 v)).drew gW (.slice (some ⟨g, 0, none⟩) n1 c1) BT := by
    rw [HBT.out]; exact (HO1.out.stored i v).keep fun _ _ _ => rfl
  have NN6 := Lib.hid O6.nums
  have B6 := Lib.hid (show Below gW W2 (W2.setCell ⟨g, i, none⟩ (.int .u8 v)).drew from ((Below.refl gW W2).setCell (p := ⟨g, i, none⟩) HG0.out (.int .u8 v)).drew)
  have HB_W6 := Lib.hid (show Below w.heap.size w (W2.setCell ⟨g, i, none⟩ (.int .u8 v)).drew from HB_W2.out.trans (B6.out.mono HWw.out))
  have R0_W6 := Lib.hid (show (W2.setCell ⟨g, i, none⟩ (.int .u8 v)).drew.heap[w.heap.size]? = some (.cells CP 28 (0, 0)) by rw [B6.out.block _ R0L.out]; exact R0_W2.out)
  clear O6 B6 HO1 gc1 gf1 R0_W2 HB_W2 BS2 LC it jt iw hg1
  generalize (W2.setCell ⟨g, i, none⟩ (.int .u8 v)).drew = W6 at *
  go_upto_region 9 with (first
    | (go_at_call 15; (refine (PC.out _ _ _ _ NN6.out (by omega)).mono ?_); rintro e v4 ⟨Aq, nq, cq, rfl, Nq, BB⟩
       have PQ := Lib.hid (PK.out Aq nq cq)
       have NQ4 := Lib.hid Nq
       have HB_v4 := Lib.hid (HB_W6.out.trans (BB.mono HB_W6.out.size))
       have RP_v4 := Lib.hid (show v4.heap[w.heap.size]? = some (.cells CP 28 (0, 0)) by rw [BB.block _ (lt_of_row R0_W6.out)]; exact R0_W6.out)
       have HN_v4 := Lib.hid (show (v4.alloc (.cells Z 28)).heap[v4.heap.size]? = some (.cells Z 28 (0, 0)) from heap_alloc_new _ _)
       clear BB Nq)
    | (refine wpList_store_row rfl 28 (.tmp 7) (.tmp 47) rfl v4.heap.size (pktV pq Aq nq cq) rfl rfl _ _ HN_v4.out PQ.out.1 PQ.out.2.1 PQ.out.2.2 ?_))
  rw [World.setRow_alloc_new]
  have HB_W5 := Lib.hid (show Below w.heap.size w (v4.alloc (.cells (pktV pq Aq nq cq) 28)) from HB_v4.out.trans ((alloc_below _ _).mono HB_v4.out.size))
  have BA := Lib.hid (alloc_below v4 (.cells (pktV pq Aq nq cq) 28))
  have R0_W5 := Lib.hid (show (v4.alloc (.cells (pktV pq Aq nq cq) 28)).heap[w.heap.size]? = some (.cells CP 28 (0, 0)) by rw [(alloc_below _ _).block _ (lt_of_row RP_v4.out)]; exact RP_v4.out)
  have RQ_W5 := Lib.hid (show (v4.alloc (.cells (pktV pq Aq nq cq) 28)).heap[v4.heap.size]? = some (.cells (pktV pq Aq nq cq) 28 (0, 0)) from heap_alloc_new _ _)
  have NQ5 := Lib.hid ((NQ4.out.below BA.out).more BA.out.size)
  have S5 := Lib.hid (fun h0 => SC.out _ _ _ cq h0 HB_W5.out NQ5.out)
  clear HB_v4 BA RP_v4 NQ4 HN_v4 NN6 NQ5 SC R0_W6 HB_W6
  generalize v4.heap.size = g2 at *
  generalize v4.alloc (.cells (pktV pq Aq nq cq) 28) = W5 at *
  generalize pktV pq Aq nq cq = CQ at *
  by_cases her : er = 0
  · have S6 := Lib.hid (S5.out her)
    subst her
    go_wp2_with (first
      | (refine wpList_load_rowG (by kernel_rfl) 28 (.tmp 2) rfl w.heap.size (by kernel_rfl) _ _ _ _ R0_W5.out Try.underlying28 rfl IP.out ?_)
      | (refine wpList_load_rowG (by kernel_rfl) 28 (.tmp 7) rfl g2 (by kernel_rfl) _ _ _ _ RQ_W5.out Try.underlying28 rfl PQ.out.1 ?_)
      | (go_at_call 13; (refine S6.out.mono ?_); rintro e W7 ⟨rfl, BB⟩
         have HB_W7 := Lib.hid (HB_W5.out.trans (BB.mono HB_W5.out.size))
         clear BB)
      | (go_at_call 8; (refine (alive_any _).mono ?_); rintro e w8 ⟨rfl, BB⟩
         have HB_w8 := Lib.hid (HB_W7.out.trans (BB.mono HB_W7.out.size))
         clear BB))
    go_ret
    exact ⟨rfl, HB_w8.out⟩
  · have hq : (er == 0) = false := beq_eq_false_iff_ne.2 her
    clear S5
    go_wp2_with (first
      | go_skip
      | (go_at_call 8; (refine (alive_any _).mono ?_); rintro e w8 ⟨rfl, BB⟩
         have HB_w8 := Lib.hid (HB_W5.out.trans (BB.mono HB_W5.out.size))
         clear BB))
    go_ret
    exact ⟨rfl, HB_w8.out⟩
end Go.Proofs.Ytmedccfekfnmlaa.pkC

/-
  The walk of IpfourAgain.
-/
namespace Go.Proofs.Ytmedccfekfnmlaa.pkC
open Go.ChangeShapes Go.WideShapes Go.ChangeAt Go.RowKit
open Go.Proofs.Ytmedccfekfnmlaa.memC Go.Proofs.Ytmedccfekfnmlaa.genC Go.Proofs.Ytmedccfekfnmlaa.butC Go.Proofs.Ytmedccfekfnmlaa.freeC Go.Proofs.Ytmedccfekfnmlaa.adC
set_option linter.unusedVariables false
def hopP (p : Pkt) (h : Int) : Pkt := { p with hops := h }
theorem pktV_hops {p : Pkt} (hp : p.Ok) (A : Option Addr) (n c : Nat) (h : Int) : (pktV p A n c).setIfInBounds 35 (.int .u8 h) = pktV (hopP p h) A n c := by
  unfold pktV
  rw [List.setIfInBounds_toArray]
  congr 1
  unfold pktL
  have l1 := adrC_len (s := p.s) hp.la
  have l2 := adrC_len (s := p.t) hp.lb
  rw [List.set_append_right _ _ (by omega), List.set_append_right _ _ (by omega), l1, l2]
  rfl
theorem zPkt_built : Try.prog.built 28 [] = some (pktV zPkt none 0 0) := by kernel_rfl
set_option maxRecDepth 100000 in
set_option maxHeartbeats 4000000 in
theorem again_walk (A : Option Addr) (n c : Nat) (bs : List Int) (w : World) (hb : Nums .u8 w w.heap.size A n bs) (hy : ∀ x ∈ bs, Byte x) (hn : n ≤ 9223372036854775807) :
    Calls Try.prog 5 #[.slice A n c] w (Ret w (.bool true)) := by
  have hzv := zeroPkt
  have HB_w := Lib.hid (Below.refl w.heap.size w)
  by_cases h1 : 2000 < n
  · have q1 : (2000 : Int) < (n : Int) := by omega
    clear hb hy h1
    go_enter Try.func5, Try.ntmps5
    go_wp2_with (first
      | (go_at_call 8; (refine (alive_any _).mono ?_); rintro e w9 ⟨rfl, BB⟩
         have HB_w9 := Lib.hid (HB_w.out.trans (BB.mono HB_w.out.size))
         clear BB))
    go_ret
    exact ⟨rfl, HB_w9.out⟩
  have q1 : decide ((2000 : Int) < (n : Int)) = false := decide_eq_false (by omega)
  have hok := psP_ok hy
  have hxb := psX_byte hy
  have PC := Lib.hid (cparse_any A n c bs w hb hy (by omega))
  unfold PsR at PC
  have PK := Lib.hid (fun (p : Pkt) (hp : p.Ok) B m d => And.intro (pkC hp B m d).info (And.intro (show (pktV zPkt none 0 0).size = (pktV p B m d).size by rw [(pkC zPkt_ok none 0 0).size, (pkC hp B m d).size]) (pkt_one p B m d)))
  have ZB := Lib.hid zPkt_built
  have hlb := hb.len
  by_cases h0 : psE bs = 0
  rotate_left
  · have e1 : psP bs = zPkt := by unfold psP; rw [if_neg h0]
    have e2 : psX bs = [] := by unfold psX; rw [if_neg h0]
    rw [e1, e2] at PC
    have SC := Lib.hid (fun w' B m d (hx : Nums .u8 w' w'.heap.size B m []) => (show Calls Try.prog 13 #[.agg (pktV zPkt B m d), .agg (pktV zPkt none 0 0)] w' (Ret w' (.bool true)) by
      have h2 := csame_any zPkt zPkt B none m d 0 0 [] [] w' zPkt_ok zPkt_ok hx (Nums.none_ 0) (by simp) (by simp)
      rw [sameB_iff.2 ⟨rfl, rfl⟩] at h2
      exact h2))
    have hz := zPkt_ok
    generalize hZ : pktV zPkt none 0 0 = Z at *
    generalize psE bs = er at *
    have hq : (er == 0) = false := beq_eq_false_iff_ne.2 h0
    clear hb hy h1 hok hxb e1 e2 h0 hlb
    go_enter Try.func5, Try.ntmps5
    go_upto_region 4 with (first
      | (go_at_call 15; (refine (PC.out).mono ?_); rintro e v1 ⟨A1, n1, c1, rfl, Nq, BB⟩
         have PQ_v1 := Lib.hid (PK.out zPkt hz A1 n1 c1)
         have NQ_v1 := Lib.hid Nq
         have HB_v1 := Lib.hid (HB_w.out.trans (BB.mono HB_w.out.size))
         have HN_v1 := Lib.hid (show (v1.alloc (.cells Z 28)).heap[v1.heap.size]? = some (.cells Z 28 (0, 0)) from heap_alloc_new _ _)
         clear BB Nq)
      | (refine wpList_store_row rfl 28 (.tmp 3) (.tmp 20) rfl v1.heap.size (pktV zPkt A1 n1 c1) rfl rfl _ _ HN_v1.out PQ_v1.out.1 PQ_v1.out.2.1 PQ_v1.out.2.2 ?_))
    rw [World.setRow_alloc_new]
    have BA := Lib.hid (alloc_below v1 (.cells (pktV zPkt A1 n1 c1) 28))
    have HB_W1 := Lib.hid (show Below w.heap.size w (v1.alloc (.cells (pktV zPkt A1 n1 c1) 28)) from HB_v1.out.trans (BA.out.mono HB_v1.out.size))
    have NP_W1 := Lib.hid ((NQ_v1.out.below BA.out).more BA.out.size)
    have RP_W1 := Lib.hid (show (v1.alloc (.cells (pktV zPkt A1 n1 c1) 28)).heap[v1.heap.size]? = some (.cells (pktV zPkt A1 n1 c1) 28 (0, 0)) from heap_alloc_new _ _)
    have GNP_g1 := Lib.hid (NQ_v1.out.below BA.out)
    have HBg_g1 := Lib.hid (show w.heap.size ≤ v1.heap.size from HB_v1.out.size)
    clear BA HB_v1 HN_v1 NQ_v1
    generalize v1.heap.size = g1 at *
    generalize (v1.alloc (.cells (pktV zPkt A1 n1 c1) 28)) = W1 at *
    have P_g1 := PQ_v1
    clear PQ_v1
    have S5 := Lib.hid (SC.out _ _ _ c1 NP_W1.out)
    go_wp2_with (first
      | (refine wpList_load_rowG (by kernel_rfl) 28 (.tmp 3) rfl g1 (by kernel_rfl) _ _ _ _ RP_W1.out Try.underlying28 rfl P_g1.out.1 ?_)
      | (refine wpList_zero rfl 28 rfl Z ZB.out ?_)
      | (go_at_call 13; (refine S5.out.mono ?_); rintro e W7 ⟨rfl, BB⟩
         have HB_W7 := Lib.hid (HB_W1.out.trans (BB.mono HB_W1.out.size))
         clear BB)
      | (go_at_call 8; (refine (alive_any _).mono ?_); rintro e w9 ⟨rfl, BB⟩
         have HB_w9 := Lib.hid (HB_W7.out.trans (BB.mono HB_W7.out.size))
         clear BB))
    go_ret
    exact ⟨rfl, HB_w9.out⟩
  obtain ⟨o1, o2, o3, o4, o5, o6, o7, o8⟩ := psE_ok h0
  have e1 : psP bs = pkOf bs := by unfold psP; rw [if_pos h0]
  have e2 : psX bs = ldOf bs := by unfold psX; rw [if_pos h0]
  rw [e1] at PC hok
  rw [e2] at PC hxb
  rw [h0] at PC
  rw [← o7] at o6
  have o9 : (ldOf bs).length ≤ 2000 := by omega
  generalize pkOf bs = p at *
  generalize ldOf bs = xs at *
  obtain ⟨k, hk⟩ : ∃ k, k = xs.length := ⟨_, rfl⟩
  rw [← hk] at o6 o9
  clear o7 e1 e2 o1 o2 o3 o4 o5 o8 h0 hb hy h1 hlb
  have hkr := hk.symm
  have ev : layL p k xs = headL p k (ckL p k) ++ xs := by unfold layL; rw [if_pos o6]
  have ee : layE p k = 0 := by unfold layE; rw [if_pos o6]
  have hbl := layL_len hok hkr o6
  have hbb := layL_byte hok (n := k) hxb
  have hpl := parse_lay (xs := xs) hok (by rw [hkr]; exact o6) []
  rw [hkr, List.append_nil] at hpl
  obtain ⟨p1, p2, p3⟩ := hpl
  have LC := Lib.hid (fun w' B d (hx : Nums .u8 w' w'.heap.size B k xs) => clay_any p B k d xs w' hok hx hxb (by omega) (fun _ => by omega))
  rw [ee] at LC
  have MC := Lib.hid (fun w' B d => cmay_pkt p B k d w' hok (by omega))
  rw [o6] at MC
  have SC := Lib.hid (fun w' A B n c m d (hx : Nums .u8 w' w'.heap.size A n xs) (hy : Nums .u8 w' w'.heap.size B m xs) => (show Calls Try.prog 13 #[.agg (pktV p A n c), .agg (pktV p B m d)] w' (Ret w' (.bool true)) by
    have h2 := csame_any p p A B n c m d xs xs w' hok hok hx hy hxb hxb
    rw [sameB_iff.2 ⟨rfl, rfl⟩] at h2
    exact h2))
  have PC2 := Lib.hid (fun w' A n' c (hb : Nums .u8 w' w'.heap.size A n' (layL p k xs)) (hn : n' ≤ 9000) => (show Calls Try.prog 15 #[.slice A n' c] w' (fun e w'' => ∃ A n c, e = .returned (.tuple #[.agg (pktV p A n c), .int .i64 0]) ∧ Nums .u8 w'' w''.heap.size A n xs ∧ Below w'.heap.size w' w'') by
    have h := cparse_any A n' c _ w' hb hbb hn
    unfold PsR psP psX at h
    rw [p1, p2, p3] at h
    exact h))
  have HC := Lib.hid (fun w' A n' c (hb : Nums .u8 w' w'.heap.size A n' (layL p k xs)) (hn : n' ≤ 9000) (hcap : n' ≤ c ∧ c ≤ 9223372036854775807) => chop_any A n' c _ w' hb hbb hn hcap.1 hcap.2)
  unfold HpR at HC
  obtain ⟨a0, a1, a2, a3, b0, b1, b2, b3, _, _, hex⟩ := head_ex hok o6 (ckL p k)
  have g8 : (layL p k xs).getD 8 0 = p.hops := by rw [ev, hex]; rfl
  have hho := hok.hops
  unfold Byte at hho
  have hPK := Lib.hid (PK.out p hok)
  have BL := Lib.hid hbl
  have K9 := Lib.hid o9
  have hkn := Lib.hid hkr
  by_cases hh : p.hops < 2
  · have hE : hpE (layL p k xs) = 1 := by unfold hpE; rw [p1, g8]; simp [hh]
    have hX : hpX (layL p k xs) = [] := by unfold hpX; rw [hE]; rfl
    rw [hE, hX] at HC
    have K35 := Lib.hid (fun (w' : World) (g : Nat) B m d (R : w'.heap[g]? = some (.cells (pktV p B m d) 28 (0, 0))) => PkC.cell R (pkC hok B m d).hops)
    generalize layL p k xs = BS at *
    generalize hZ : pktV zPkt none 0 0 = Z at *
    generalize p.hops = hp at *
    clear hok hxb ev ee hbl hbb p1 p2 p3 hex g8 hE hX hho o6 o9 hk hkr
    go_enter Try.func5, Try.ntmps5
    go_upto_region 4 with (first
      | (go_at_call 15; (refine (PC.out).mono ?_); rintro e v1 ⟨A1, n1, c1, rfl, Nq, BB⟩
         have PQ_v1 := Lib.hid (hPK.out A1 n1 c1)
         have NQ_v1 := Lib.hid Nq
         have HB_v1 := Lib.hid (HB_w.out.trans (BB.mono HB_w.out.size))
         have HN_v1 := Lib.hid (show (v1.alloc (.cells Z 28)).heap[v1.heap.size]? = some (.cells Z 28 (0, 0)) from heap_alloc_new _ _)
         clear BB Nq)
      | (refine wpList_store_row rfl 28 (.tmp 3) (.tmp 20) rfl v1.heap.size (pktV p A1 n1 c1) rfl rfl _ _ HN_v1.out PQ_v1.out.1 PQ_v1.out.2.1 PQ_v1.out.2.2 ?_))
    rw [World.setRow_alloc_new]
    have BA := Lib.hid (alloc_below v1 (.cells (pktV p A1 n1 c1) 28))
    have HB_W1 := Lib.hid (show Below w.heap.size w (v1.alloc (.cells (pktV p A1 n1 c1) 28)) from HB_v1.out.trans (BA.out.mono HB_v1.out.size))
    have NP_W1 := Lib.hid ((NQ_v1.out.below BA.out).more BA.out.size)
    have RP_W1 := Lib.hid (show (v1.alloc (.cells (pktV p A1 n1 c1) 28)).heap[v1.heap.size]? = some (.cells (pktV p A1 n1 c1) 28 (0, 0)) from heap_alloc_new _ _)
    have GNP_g1 := Lib.hid (NQ_v1.out.below BA.out)
    have HBg_g1 := Lib.hid (show w.heap.size ≤ v1.heap.size from HB_v1.out.size)
    clear BA HB_v1 HN_v1 NQ_v1
    generalize v1.heap.size = g1 at *
    generalize (v1.alloc (.cells (pktV p A1 n1 c1) 28)) = W1 at *
    have P_g1 := PQ_v1
    clear PQ_v1
    have hnk : n1 = k := by rw [← NP_W1.out.len, hkn.out]
    subst hnk
    go_upto_region 7 with (first
      | (refine wpList_load_rowG (by kernel_rfl) 28 (.tmp 3) rfl g1 (by kernel_rfl) _ _ _ _ RP_W1.out Try.underlying28 rfl P_g1.out.1 ?_)
      | (go_at_call 9; (refine (LC.out _ _ _ NP_W1.out).mono ?_); rintro e W2 ⟨A2, n2, c2, rfl, O2, BB⟩
         have NB_W2 := Lib.hid O2.nums
         have CAP2 := Lib.hid (own_cap O2)
         have hn2 := O2.len
         rw [BL.out] at hn2
         have HN2 := Lib.hid (show n2 ≤ 9000 by have := K9.out; omega)
         have HB_W2 := Lib.hid (HB_W1.out.trans (BB.mono HB_W1.out.size))
         have NP_W2 := Lib.hid ((NP_W1.out.below BB).more BB.size)
         have RP_W2 := Lib.hid (show W2.heap[g1]? = some (.cells (pktV p A1 n1 c1) 28 (0, 0)) by rw [BB.block _ (lt_of_row RP_W1.out)]; exact RP_W1.out)
         clear BB O2 hn2))
    clear NP_W1 RP_W1 HB_W1
    go_upto_region 8 with (first
      | (go_at_call 15; (refine (PC2.out _ _ _ _ NB_W2.out HN2.out).mono ?_); rintro e v4 ⟨Aq, nq, cq, rfl, Nq, BB⟩
         have PQ_v4 := Lib.hid (hPK.out Aq nq cq)
         have NQ_v4 := Lib.hid Nq
         have HB_v4 := Lib.hid (HB_W2.out.trans (BB.mono HB_W2.out.size))
         have RP_v4 := Lib.hid (show v4.heap[g1]? = some (.cells (pktV p A1 n1 c1) 28 (0, 0)) by rw [BB.block _ (lt_of_row RP_W2.out)]; exact RP_W2.out)
         have NP_v4 := Lib.hid ((NP_W2.out.below BB).more BB.size)
         have NB_v4 := Lib.hid ((NB_W2.out.below BB).more BB.size)
         have HN_v4 := Lib.hid (show (v4.alloc (.cells Z 28)).heap[v4.heap.size]? = some (.cells Z 28 (0, 0)) from heap_alloc_new _ _)
         clear BB Nq)
      | (refine wpList_store_row rfl 28 (.tmp 7) (.tmp 38) rfl v4.heap.size (pktV p Aq nq cq) rfl rfl _ _ HN_v4.out PQ_v4.out.1 PQ_v4.out.2.1 PQ_v4.out.2.2 ?_))
    rw [World.setRow_alloc_new]
    have BA := Lib.hid (alloc_below v4 (.cells (pktV p Aq nq cq) 28))
    have HB_W3 := Lib.hid (show Below w.heap.size w (v4.alloc (.cells (pktV p Aq nq cq) 28)) from HB_v4.out.trans (BA.out.mono HB_v4.out.size))
    have RP_W3 := Lib.hid (show (v4.alloc (.cells (pktV p Aq nq cq) 28)).heap[g1]? = some (.cells (pktV p A1 n1 c1) 28 (0, 0)) by rw [BA.out.block _ (lt_of_row RP_v4.out)]; exact RP_v4.out)
    have NP_W3 := Lib.hid ((NP_v4.out.below BA.out).more BA.out.size)
    have NB_W3 := Lib.hid ((NB_v4.out.below BA.out).more BA.out.size)
    have NQ_W3 := Lib.hid ((NQ_v4.out.below BA.out).more BA.out.size)
    have RQ_W3 := Lib.hid (show (v4.alloc (.cells (pktV p Aq nq cq) 28)).heap[v4.heap.size]? = some (.cells (pktV p Aq nq cq) 28 (0, 0)) from heap_alloc_new _ _)
    have LT_RP_g2 := Lib.hid (show g1 < v4.heap.size from lt_of_row RP_v4.out)
    have GNP_g2 := Lib.hid (NP_v4.out.below BA.out)
    have GNB_g2 := Lib.hid (NB_v4.out.below BA.out)
    have GNQ_g2 := Lib.hid (NQ_v4.out.below BA.out)
    have HBg_g2 := Lib.hid (show w.heap.size ≤ v4.heap.size from HB_v4.out.size)
    clear BA HB_v4 HN_v4 NQ_v4 RP_v4 NP_v4 NB_v4
    generalize v4.heap.size = g2 at *
    generalize (v4.alloc (.cells (pktV p Aq nq cq) 28)) = W3 at *
    have P_g2 := PQ_v4
    clear PQ_v4
    clear NP_W2 RP_W2 HB_W2 NB_W2
    go_upto_region 10 with (first
      | (refine wpList_load_rowG (by kernel_rfl) 28 (.tmp 3) rfl g1 (by kernel_rfl) _ _ _ _ RP_W3.out Try.underlying28 rfl P_g1.out.1 ?_)
      | (refine wpList_load_rowG (by kernel_rfl) 28 (.tmp 3) rfl g1 (by kernel_rfl) _ _ _ _ RP_W4.out Try.underlying28 rfl P_g1.out.1 ?_)
      | (refine wpList_load_rowG (by kernel_rfl) 28 (.tmp 7) rfl g2 (by kernel_rfl) _ _ _ _ RQ_W4.out Try.underlying28 rfl P_g2.out.1 ?_)
      | (go_at_call 11; (refine (MC.out _ _ _).mono ?_); rintro e W4 ⟨rfl, BB⟩
         have HB_W4 := Lib.hid (HB_W3.out.trans (BB.mono HB_W3.out.size))
         have NP_W4 := Lib.hid ((NP_W3.out.below BB).more BB.size)
         have NB_W4 := Lib.hid ((NB_W3.out.below BB).more BB.size)
         have NQ_W4 := Lib.hid ((NQ_W3.out.below BB).more BB.size)
         have S4 := Lib.hid (SC.out _ _ _ _ c1 _ cq NP_W4.out NQ_W4.out)
         have RP_W4 := Lib.hid (show W4.heap[g1]? = some (.cells (pktV p A1 n1 c1) 28 (0, 0)) by rw [BB.block _ (lt_of_row RP_W3.out)]; exact RP_W3.out)
         have RQ_W4 := Lib.hid (show W4.heap[g2]? = some (.cells (pktV p Aq nq cq) 28 (0, 0)) by rw [BB.block _ (lt_of_row RQ_W3.out)]; exact RQ_W3.out)
         clear BB)
      | (go_at_call 13; (refine S4.out.mono ?_); rintro e W6 ⟨rfl, BB⟩
         have HB_W6 := Lib.hid (HB_W4.out.trans (BB.mono HB_W4.out.size))
         have NP_W6 := Lib.hid ((NP_W4.out.below BB).more BB.size)
         have NB_W6 := Lib.hid ((NB_W4.out.below BB).more BB.size)
         have RP_W6 := Lib.hid (show W6.heap[g1]? = some (.cells (pktV p A1 n1 c1) 28 (0, 0)) by rw [BB.block _ (lt_of_row RP_W4.out)]; exact RP_W4.out)
         clear BB))
    clear NP_W3 NB_W3 NQ_W3 RP_W3 RQ_W3 HB_W3 NP_W4 NB_W4 NQ_W4 RP_W4 RQ_W4 HB_W4 S4
    go_upto_region 11 with (first
      | (go_at_call 16; (refine (HC.out _ _ _ _ NB_W6.out HN2.out CAP2.out).mono ?_); rintro e W5 ⟨Ah, nh, ch, rfl, Nh, BB⟩
         have ND_W5 := Lib.hid Nh
         have HB_W5 := Lib.hid (HB_W6.out.trans (BB.mono HB_W6.out.size))
         have NP_W5 := Lib.hid ((NP_W6.out.below BB).more BB.size)
         have RP_W5 := Lib.hid (show W5.heap[g1]? = some (.cells (pktV p A1 n1 c1) 28 (0, 0)) by rw [BB.block _ (lt_of_row RP_W6.out)]; exact RP_W6.out)
         clear BB Nh))
    clear NP_W6 NB_W6 RP_W6 HB_W6
    have k35 := K35.out _ _ _ _ _ RP_W5.out
    go_wp2_with (first
      | (go_at_call 8; (refine (alive_any _).mono ?_); rintro e w9 ⟨rfl, BB⟩
         have HB_w9 := Lib.hid (HB_W5.out.trans (BB.mono HB_W5.out.size))
         clear BB))
    go_ret
    exact ⟨rfl, HB_w9.out⟩
  have hE : hpE (layL p k xs) = 0 := by unfold hpE; rw [p1, g8]; simp [hh]
  have hX : hpX (layL p k xs) = hpL (layL p k xs) := by unfold hpX; rw [hE]; rfl
  rw [hE, hX] at HC
  have hm2 : mayB p xs.length = true := by rw [hkr]; exact o6
  obtain ⟨ck', c0', c1', hg', hl'⟩ := hop_head hok (xs := xs) hm2 (ck_good hok hm2) (ckL_bd _ _).1 (ckL_bd _ _).2 (by omega) xs
  rw [hkr, ← ev] at hl'
  have hok' : (hopP p (p.hops - 1)).Ok := ⟨hok.la, hok.lb, hok.ya, hok.yb, hok.proto, by show 0 ≤ p.hops - 1 ∧ p.hops - 1 ≤ 255; omega, hok.id, hok.off⟩
  have hpl2 := parse_head (p := hopP p (p.hops - 1)) (xs := xs) (n := k) hok' hkr o6 (by rw [hkr] at hg'; exact hg') c0' c1' []
  rw [List.append_nil] at hpl2
  have hl2 : hpL (layL p k xs) = headL (hopP p (p.hops - 1)) k ck' ++ xs := hl'
  rw [← hl2] at hpl2
  obtain ⟨r1, r2, r3⟩ := hpl2
  have hdb : ∀ x ∈ hpL (layL p k xs), Byte x := by
    rw [hl2]
    intro x hx
    rcases List.mem_append.1 hx with h | h
    · exact headL_byte hok' k c0' c1' x h
    · exact hxb x h
  have hdl : (hpL (layL p k xs)).length = 20 + k := by unfold hpL; rw [List.length_set, List.length_set, List.length_set, hbl]
  have PC3 := Lib.hid (fun w' A n' c (hb : Nums .u8 w' w'.heap.size A n' (hpL (layL p k xs))) (hn : n' ≤ 9000) => (show Calls Try.prog 15 #[.slice A n' c] w' (fun e w'' => ∃ A n c, e = .returned (.tuple #[.agg (pktV (hopP p (p.hops - 1)) A n c), .int .i64 0]) ∧ Nums .u8 w'' w''.heap.size A n xs ∧ Below w'.heap.size w' w'') by
    have h := cparse_any A n' c _ w' hb hdb hn
    unfold PsR psP psX at h
    rw [r1, r2, r3] at h
    exact h))
  have hPK3 := Lib.hid (PK.out _ hok')
  have K35 := Lib.hid (fun (w' : World) (g : Nat) B m d (R : w'.heap[g]? = some (.cells (pktV (hopP p (p.hops - 1)) B m d) 28 (0, 0))) => (show w'.cell? ⟨g, 35, none⟩ = some (.int .u8 (p.hops - 1)) from PkC.cell R (pkC hok' B m d).hops))
  have SET := Lib.hid (fun B m d => (show (pktV (hopP p (p.hops - 1)) B m d).setIfInBounds 35 (.int .u8 p.hops) = pktV p B m d from pktV_hops hok' B m d p.hops))
  have DL := Lib.hid hdl
  have hpw : IntKind.u8.wrap (p.hops - 1 + 1) = p.hops := by rw [Int.sub_add_cancel]; exact IntWalk.u8_in _ (by omega)
  have hpm : (p.hops - 1 + 1) % 256 = p.hops := by omega
  generalize hpL (layL p k xs) = DS at *
  generalize layL p k xs = BS at *
  generalize hZ : pktV zPkt none 0 0 = Z at *
  generalize hopP p (p.hops - 1) = p' at *
  obtain ⟨hp, hhp⟩ : ∃ h, h = p.hops := ⟨_, rfl⟩
  rw [← hhp] at K35 SET hpw hpm
  have hm0 : 0 ≤ hp - 1 := by omega
  have hm1 : hp - 1 ≤ 254 := by omega
  clear hok hxb ev ee hbl hbb p1 p2 p3 hex g8 hE hX hho o6 o9 hk hkr hm2 hg' hl' hl2 r1 r2 r3 hdb hdl hok' hhp hh
  go_enter Try.func5, Try.ntmps5
  go_upto_region 4 with (first
    | (go_at_call 15; (refine (PC.out).mono ?_); rintro e v1 ⟨A1, n1, c1, rfl, Nq, BB⟩
       have PQ_v1 := Lib.hid (hPK.out A1 n1 c1)
       have NQ_v1 := Lib.hid Nq
       have HB_v1 := Lib.hid (HB_w.out.trans (BB.mono HB_w.out.size))
       have HN_v1 := Lib.hid (show (v1.alloc (.cells Z 28)).heap[v1.heap.size]? = some (.cells Z 28 (0, 0)) from heap_alloc_new _ _)
       clear BB Nq)
    | (refine wpList_store_row rfl 28 (.tmp 3) (.tmp 20) rfl v1.heap.size (pktV p A1 n1 c1) rfl rfl _ _ HN_v1.out PQ_v1.out.1 PQ_v1.out.2.1 PQ_v1.out.2.2 ?_))
  rw [World.setRow_alloc_new]
  have BA := Lib.hid (alloc_below v1 (.cells (pktV p A1 n1 c1) 28))
  have HB_W1 := Lib.hid (show Below w.heap.size w (v1.alloc (.cells (pktV p A1 n1 c1) 28)) from HB_v1.out.trans (BA.out.mono HB_v1.out.size))
  have NP_W1 := Lib.hid ((NQ_v1.out.below BA.out).more BA.out.size)
  have RP_W1 := Lib.hid (show (v1.alloc (.cells (pktV p A1 n1 c1) 28)).heap[v1.heap.size]? = some (.cells (pktV p A1 n1 c1) 28 (0, 0)) from heap_alloc_new _ _)
  have GNP_g1 := Lib.hid (NQ_v1.out.below BA.out)
  have HBg_g1 := Lib.hid (show w.heap.size ≤ v1.heap.size from HB_v1.out.size)
  clear BA HB_v1 HN_v1 NQ_v1
  generalize v1.heap.size = g1 at *
  generalize (v1.alloc (.cells (pktV p A1 n1 c1) 28)) = W1 at *
  have P_g1 := PQ_v1
  clear PQ_v1
  have hnk : n1 = k := by rw [← NP_W1.out.len, hkn.out]
  subst hnk
  go_upto_region 7 with (first
    | (refine wpList_load_rowG (by kernel_rfl) 28 (.tmp 3) rfl g1 (by kernel_rfl) _ _ _ _ RP_W1.out Try.underlying28 rfl P_g1.out.1 ?_)
    | (go_at_call 9; (refine (LC.out _ _ _ NP_W1.out).mono ?_); rintro e W2 ⟨A2, n2, c2, rfl, O2, BB⟩
       have NB_W2 := Lib.hid O2.nums
       have CAP2 := Lib.hid (own_cap O2)
       have hn2 := O2.len
       rw [BL.out] at hn2
       have HN2 := Lib.hid (show n2 ≤ 9000 by have := K9.out; omega)
       have HB_W2 := Lib.hid (HB_W1.out.trans (BB.mono HB_W1.out.size))
       have NP_W2 := Lib.hid ((NP_W1.out.below BB).more BB.size)
       have RP_W2 := Lib.hid (show W2.heap[g1]? = some (.cells (pktV p A1 n1 c1) 28 (0, 0)) by rw [BB.block _ (lt_of_row RP_W1.out)]; exact RP_W1.out)
       clear BB O2 hn2))
  clear NP_W1 RP_W1 HB_W1
  go_upto_region 8 with (first
    | (go_at_call 15; (refine (PC2.out _ _ _ _ NB_W2.out HN2.out).mono ?_); rintro e v4 ⟨Aq, nq, cq, rfl, Nq, BB⟩
       have PQ_v4 := Lib.hid (hPK.out Aq nq cq)
       have NQ_v4 := Lib.hid Nq
       have HB_v4 := Lib.hid (HB_W2.out.trans (BB.mono HB_W2.out.size))
       have RP_v4 := Lib.hid (show v4.heap[g1]? = some (.cells (pktV p A1 n1 c1) 28 (0, 0)) by rw [BB.block _ (lt_of_row RP_W2.out)]; exact RP_W2.out)
       have NP_v4 := Lib.hid ((NP_W2.out.below BB).more BB.size)
       have NB_v4 := Lib.hid ((NB_W2.out.below BB).more BB.size)
       have HN_v4 := Lib.hid (show (v4.alloc (.cells Z 28)).heap[v4.heap.size]? = some (.cells Z 28 (0, 0)) from heap_alloc_new _ _)
       clear BB Nq)
    | (refine wpList_store_row rfl 28 (.tmp 7) (.tmp 38) rfl v4.heap.size (pktV p Aq nq cq) rfl rfl _ _ HN_v4.out PQ_v4.out.1 PQ_v4.out.2.1 PQ_v4.out.2.2 ?_))
  rw [World.setRow_alloc_new]
  have BA := Lib.hid (alloc_below v4 (.cells (pktV p Aq nq cq) 28))
  have HB_W3 := Lib.hid (show Below w.heap.size w (v4.alloc (.cells (pktV p Aq nq cq) 28)) from HB_v4.out.trans (BA.out.mono HB_v4.out.size))
  have RP_W3 := Lib.hid (show (v4.alloc (.cells (pktV p Aq nq cq) 28)).heap[g1]? = some (.cells (pktV p A1 n1 c1) 28 (0, 0)) by rw [BA.out.block _ (lt_of_row RP_v4.out)]; exact RP_v4.out)
  have NP_W3 := Lib.hid ((NP_v4.out.below BA.out).more BA.out.size)
  have NB_W3 := Lib.hid ((NB_v4.out.below BA.out).more BA.out.size)
  have NQ_W3 := Lib.hid ((NQ_v4.out.below BA.out).more BA.out.size)
  have RQ_W3 := Lib.hid (show (v4.alloc (.cells (pktV p Aq nq cq) 28)).heap[v4.heap.size]? = some (.cells (pktV p Aq nq cq) 28 (0, 0)) from heap_alloc_new _ _)
  have LT_RP_g2 := Lib.hid (show g1 < v4.heap.size from lt_of_row RP_v4.out)
  have GNP_g2 := Lib.hid (NP_v4.out.below BA.out)
  have GNB_g2 := Lib.hid (NB_v4.out.below BA.out)
  have GNQ_g2 := Lib.hid (NQ_v4.out.below BA.out)
  have HBg_g2 := Lib.hid (show w.heap.size ≤ v4.heap.size from HB_v4.out.size)
  clear BA HB_v4 HN_v4 NQ_v4 RP_v4 NP_v4 NB_v4
  generalize v4.heap.size = g2 at *
  generalize (v4.alloc (.cells (pktV p Aq nq cq) 28)) = W3 at *
  have P_g2 := PQ_v4
  clear PQ_v4
  clear NP_W2 RP_W2 HB_W2 NB_W2
  go_upto_region 10 with (first
    | (refine wpList_load_rowG (by kernel_rfl) 28 (.tmp 3) rfl g1 (by kernel_rfl) _ _ _ _ RP_W3.out Try.underlying28 rfl P_g1.out.1 ?_)
    | (refine wpList_load_rowG (by kernel_rfl) 28 (.tmp 3) rfl g1 (by kernel_rfl) _ _ _ _ RP_W4.out Try.underlying28 rfl P_g1.out.1 ?_)
    | (refine wpList_load_rowG (by kernel_rfl) 28 (.tmp 7) rfl g2 (by kernel_rfl) _ _ _ _ RQ_W4.out Try.underlying28 rfl P_g2.out.1 ?_)
    | (go_at_call 11; (refine (MC.out _ _ _).mono ?_); rintro e W4 ⟨rfl, BB⟩
       have HB_W4 := Lib.hid (HB_W3.out.trans (BB.mono HB_W3.out.size))
       have NP_W4 := Lib.hid ((NP_W3.out.below BB).more BB.size)
       have NB_W4 := Lib.hid ((NB_W3.out.below BB).more BB.size)
       have NQ_W4 := Lib.hid ((NQ_W3.out.below BB).more BB.size)
       have S4 := Lib.hid (SC.out _ _ _ _ c1 _ cq NP_W4.out NQ_W4.out)
       have RP_W4 := Lib.hid (show W4.heap[g1]? = some (.cells (pktV p A1 n1 c1) 28 (0, 0)) by rw [BB.block _ (lt_of_row RP_W3.out)]; exact RP_W3.out)
       have RQ_W4 := Lib.hid (show W4.heap[g2]? = some (.cells (pktV p Aq nq cq) 28 (0, 0)) by rw [BB.block _ (lt_of_row RQ_W3.out)]; exact RQ_W3.out)
       clear BB)
    | (go_at_call 13; (refine S4.out.mono ?_); rintro e W6 ⟨rfl, BB⟩
       have HB_W6 := Lib.hid (HB_W4.out.trans (BB.mono HB_W4.out.size))
       have NP_W6 := Lib.hid ((NP_W4.out.below BB).more BB.size)
       have NB_W6 := Lib.hid ((NB_W4.out.below BB).more BB.size)
       have RP_W6 := Lib.hid (show W6.heap[g1]? = some (.cells (pktV p A1 n1 c1) 28 (0, 0)) by rw [BB.block _ (lt_of_row RP_W4.out)]; exact RP_W4.out)
       clear BB))
  clear NP_W3 NB_W3 NQ_W3 RP_W3 RQ_W3 HB_W3 NP_W4 NB_W4 NQ_W4 RP_W4 RQ_W4 HB_W4 S4
  go_upto_region 11 with (first
    | (go_at_call 16; (refine (HC.out _ _ _ _ NB_W6.out HN2.out CAP2.out).mono ?_); rintro e W5 ⟨Ah, nh, ch, rfl, Nh, BB⟩
       have ND_W5 := Lib.hid Nh
       have HB_W5 := Lib.hid (HB_W6.out.trans (BB.mono HB_W6.out.size))
       have NP_W5 := Lib.hid ((NP_W6.out.below BB).more BB.size)
       have RP_W5 := Lib.hid (show W5.heap[g1]? = some (.cells (pktV p A1 n1 c1) 28 (0, 0)) by rw [BB.block _ (lt_of_row RP_W6.out)]; exact RP_W6.out)
       clear BB Nh))
  clear NP_W6 NB_W6 RP_W6 HB_W6
  go_upto_region 14 with (first
    | (go_at_call 15; (refine (PC3.out _ _ _ _ ND_W5.out (by have := ND_W5.out.len; have := DL.out; have := K9.out; omega)).mono ?_); rintro e v7 ⟨Ax, nx, cx, rfl, Nq, BB⟩
       have PQ_v7 := Lib.hid (hPK3.out Ax nx cx)
       have NQ_v7 := Lib.hid Nq
       have HB_v7 := Lib.hid (HB_W5.out.trans (BB.mono HB_W5.out.size))
       have RP_v7 := Lib.hid (show v7.heap[g1]? = some (.cells (pktV p A1 n1 c1) 28 (0, 0)) by rw [BB.block _ (lt_of_row RP_W5.out)]; exact RP_W5.out)
       have NP_v7 := Lib.hid ((NP_W5.out.below BB).more BB.size)
       have HN_v7 := Lib.hid (show (v7.alloc (.cells Z 28)).heap[v7.heap.size]? = some (.cells Z 28 (0, 0)) from heap_alloc_new _ _)
       clear BB Nq)
    | (refine wpList_store_row rfl 28 (.tmp 11) (.tmp 73) rfl v7.heap.size (pktV p' Ax nx cx) rfl rfl _ _ HN_v7.out PQ_v7.out.1 PQ_v7.out.2.1 PQ_v7.out.2.2 ?_))
  rw [World.setRow_alloc_new]
  have BA := Lib.hid (alloc_below v7 (.cells (pktV p' Ax nx cx) 28))
  have HB_W8 := Lib.hid (show Below w.heap.size w (v7.alloc (.cells (pktV p' Ax nx cx) 28)) from HB_v7.out.trans (BA.out.mono HB_v7.out.size))
  have RP_W8 := Lib.hid (show (v7.alloc (.cells (pktV p' Ax nx cx) 28)).heap[g1]? = some (.cells (pktV p A1 n1 c1) 28 (0, 0)) by rw [BA.out.block _ (lt_of_row RP_v7.out)]; exact RP_v7.out)
  have NP_W8 := Lib.hid ((NP_v7.out.below BA.out).more BA.out.size)
  have NX_W8 := Lib.hid ((NQ_v7.out.below BA.out).more BA.out.size)
  have RX_W8 := Lib.hid (show (v7.alloc (.cells (pktV p' Ax nx cx) 28)).heap[v7.heap.size]? = some (.cells (pktV p' Ax nx cx) 28 (0, 0)) from heap_alloc_new _ _)
  have LT_RP_g3 := Lib.hid (show g1 < v7.heap.size from lt_of_row RP_v7.out)
  have GNP_g3 := Lib.hid (NP_v7.out.below BA.out)
  have GNX_g3 := Lib.hid (NQ_v7.out.below BA.out)
  have HBg_g3 := Lib.hid (show w.heap.size ≤ v7.heap.size from HB_v7.out.size)
  clear BA HB_v7 HN_v7 NQ_v7 RP_v7 NP_v7
  generalize v7.heap.size = g3 at *
  generalize (v7.alloc (.cells (pktV p' Ax nx cx) 28)) = W8 at *
  have P_g3 := PQ_v7
  clear PQ_v7
  have k35 := K35.out _ _ _ _ _ RX_W8.out
  have f35 := frozen_of_row W8 g3 35 _ 28 RX_W8.out
  go_upto_region 15 with fail
  have B9 := Lib.hid (show Below g3 W8 (W8.setCell ⟨g3, 35, none⟩ (.int .u8 hp)) from (Below.refl g3 W8).setCell (p := ⟨g3, 35, none⟩) (Nat.le_refl _) (.int .u8 hp))
  have RX_W9 := Lib.hid (show (W8.setCell ⟨g3, 35, none⟩ (.int .u8 hp)).heap[g3]? = some (.cells (pktV p Ax nx cx) 28 (0, 0)) by rw [heap_setCell_same W8 g3 35 _ _ _ RX_W8.out, SET.out])
  have RP_W9 := Lib.hid (show (W8.setCell ⟨g3, 35, none⟩ (.int .u8 hp)).heap[g1]? = some (.cells (pktV p A1 n1 c1) 28 (0, 0)) by rw [B9.out.block _ LT_RP_g3.out]; exact RP_W8.out)
  have HB_W9 := Lib.hid (show Below w.heap.size w (W8.setCell ⟨g3, 35, none⟩ (.int .u8 hp)) from HB_W8.out.setCell (p := ⟨g3, 35, none⟩) HBg_g3.out _)
  have L9 := Lib.hid (Nat.le_trans (Nat.le_of_lt (lt_of_row RX_W8.out)) B9.out.size)
  have S9 := Lib.hid (SC.out _ _ _ _ cx _ c1 ((GNX_g3.out.below B9.out).more L9.out) ((GNP_g3.out.below B9.out).more L9.out))
  have I9 := Lib.hid (hPK.out Ax nx cx).1
  clear RX_W8 RP_W8 HB_W8 B9 L9 k35 f35 GNX_g3 GNP_g3 K35 SET hpw hpm
  generalize W8.setCell ⟨g3, 35, none⟩ (.int .u8 hp) = W9 at *
  generalize pktV p Ax nx cx = CX at *
  generalize pktV p A1 n1 c1 = CP at *
  go_wp2_with (first
    | (refine wpList_load_rowG (by kernel_rfl) 28 (.tmp 11) rfl g3 (by kernel_rfl) _ _ _ _ RX_W9.out Try.underlying28 rfl I9.out ?_)
    | (refine wpList_load_rowG (by kernel_rfl) 28 (.tmp 3) rfl g1 (by kernel_rfl) _ _ _ _ RP_W9.out Try.underlying28 rfl P_g1.out.1 ?_)
    | (go_at_call 13; (refine S9.out.mono ?_); rintro e W10 ⟨rfl, BB⟩
       have HB_W10 := Lib.hid (HB_W9.out.trans (BB.mono HB_W9.out.size))
       clear BB)
    | (go_at_call 8; (refine (alive_any _).mono ?_); rintro e w9 ⟨rfl, BB⟩
       have HB_w9 := Lib.hid (HB_W10.out.trans (BB.mono HB_W10.out.size))
       clear BB))
  go_ret
  exact ⟨rfl, HB_w9.out⟩
end Go.Proofs.Ytmedccfekfnmlaa.pkC

/-
  How the arguments of a statement are opened: an array of numbers, a slice of numbers.
-/
namespace Go.Proofs.Ytmedccfekfnmlaa.openC
open Go.ChangeShapes Go.WideShapes Go.ChangeAt Go.RowKit
set_option linter.unusedVariables false
variable {H : Type} {enc : TypeId × Value → H} {P : Program} {w : World} {base : Nat} {spare : Nat → Bool} {held : Bool}

theorem list2 {α : Type} {l : List α} (h : l.length = 2) : ∃ a b, l = [a, b] := by
  match l, h with
  | [a, b], _ => exact ⟨a, b, rfl⟩
theorem list3 {α : Type} {l : List α} (h : l.length = 3) : ∃ a b c, l = [a, b, c] := by
  match l, h with
  | [a, b, c], _ => exact ⟨a, b, c, rfl⟩
theorem list4 {α : Type} {l : List α} (h : l.length = 4) : ∃ a b c d, l = [a, b, c, d] := by
  match l, h with
  | [a, b, c, d], _ => exact ⟨a, b, c, d, rfl⟩
theorem open_array_ints {r : Reach} {b0 : Nat} {t e : TypeId} {n : Nat} {k : IntKind} {v : Value} {d : DataW H} {ps : List MemPlace} (ht : P.underlying t = some (.array n e)) (he : P.underlying e = some (.int k))
    (hce : P.cellsOf e = 1) (hct : P.cellsOf t = n) (hval : Value.okWide P w r b0 t v) (hd : DataW.Trod enc P w base spare held t v d ps) :
    ∃ zs : List Int, zs.length = n ∧ v = .agg (zs.map (Value.int k)).toArray ∧ ∀ x ∈ zs, (Lit.int k x).wf = true := by
  obtain ⟨cs, rfl, hsz, _⟩ : ∃ cs, v = .agg cs ∧ cs.size = P.cellsOf t ∧ Row.okWide P w r b0 t cs := by
    simpa [Value.okWide, ht] using hval
  obtain ⟨l⟩ := cs
  rw [hct] at hsz
  obtain ⟨fuel, hf⟩ := hd
  obtain ⟨xs, m, rfl, _, hl, hxl, hx⟩ := DataW.trod_array ht hf
  rw [hce] at hx
  have hsz' : l.length = n := by simpa using hsz
  have key : ∀ i, (hi : i < n) → ∃ z, l[i]? = some (.int k z) ∧ (Lit.int k z).wf = true := by
    intro i hi
    have h1 := hx i hi
    have hxi : xs[i]? = some (xs[i]'(by omega)) := List.getElem?_eq_getElem _
    rw [hxi] at h1
    obtain ⟨z, h2, _, h3⟩ := DataW.trod_int he h1
    refine ⟨z, ?_, h3⟩
    have h4 : ((Value.agg { toList := l }).cells.toList.drop (i * 1)).take 1 = [Value.int k z] := h2
    have h5 : (Value.agg { toList := l }).cells.toList = l := by simp [Value.cells]
    rw [h5, Nat.mul_one] at h4
    have h6 := congrArg (fun q => q[0]?) h4
    simpa using h6
  refine ⟨l.map fun v => match v with | .int _ z => z | _ => 0, by simpa using hsz', ?_, ?_⟩
  · congr 1
    simp only [List.map_map]
    congr 1
    apply List.ext_getElem?
    intro i
    by_cases hi : i < n
    · obtain ⟨z, hz, _⟩ := key i hi
      rw [List.getElem?_map, hz]; rfl
    · rw [List.getElem?_eq_none (by omega), List.getElem?_eq_none (by simp; omega)]
  · intro x hx
    obtain ⟨v, hv, rfl⟩ := List.mem_map.1 hx
    obtain ⟨i, hi, rfl⟩ := List.getElem_of_mem hv
    obtain ⟨z, hz, hw⟩ := key i (by omega)
    rw [List.getElem?_eq_getElem hi] at hz
    obtain hz := Option.some.inj hz
    rw [hz]; exact hw
/-- a slice of numbers that came in: of no number, or a row of cells -/
theorem open_slice_ints {r : Reach} {b0 : Nat} {t e : TypeId} {k : IntKind} {v : Value} {d : DataW H} {ps : List MemPlace} (ht : P.underlying t = some (.slice e)) (he : P.underlying e = some (.int k))
    (hce : P.cellsOf e = 1) (hsp : ∀ b, spare b = true) (hval : Value.okWide P w r b0 t v) (hd : DataW.Trod enc P w base spare held t v d ps) :
    (∃ a cap, v = .slice a 0 cap) ∨
    ∃ (b off len cap : Nat) (zs : List Int), v = .slice (some ⟨b, off, none⟩) len cap ∧ len ≤ cap ∧ cap ≤ maxLen ∧ zs.length = len ∧ (∀ i, i < len → w.cell? ⟨b, off + i, none⟩ = some (.int k (zs.getD i 0))) ∧ ∀ n ∈ zs, (Lit.int k n).wf = true := by
  obtain ⟨a, len, cap, rfl⟩ := okWide_slice ht hval
  obtain ⟨fuel, hf⟩ := hd
  rcases open_ints ht he hce hf with ⟨hcs, _⟩ | ⟨x, l, c, zs, hcs, _, hl, hm, hz, _, hcell, hwz⟩
  · simp [Value.cells] at hcs
    obtain ⟨rfl, rfl, rfl⟩ := hcs
    exact .inl ⟨_, _, rfl⟩
  · simp [Value.cells] at hcs
    obtain ⟨rfl, rfl, rfl⟩ := hcs
    by_cases h0 : len = 0
    · subst h0; exact .inl ⟨_, _, rfl⟩
    · rw [hsp, if_pos rfl] at hz
      obtain ⟨b, off, spot⟩ := x
      have hc := hcell 0 (by omega)
      have hspot : spot = none := by simpa [Addr.add] using World.cell?_spot hc
      subst hspot
      refine .inr ⟨b, off, len, cap, zs.take len, rfl, hl, hm, by simp; omega, ?_, fun n hn => hwz n (List.mem_of_mem_take hn)⟩
      intro i hi
      have h1 := hcell i (by omega)
      have h2 : (zs.take len).getD i 0 = zs.getD i 0 := by simp [List.getD_eq_getElem?_getD, hi]
      rw [h2]
      have e : (Addr.add ⟨b, off, none⟩ i) = (⟨b, off + i, none⟩ : Addr) := by
        unfold Addr.add; split
        · rename_i hi0; subst hi0; rfl
        · rfl
      rw [e] at h1; exact h1
end Go.Proofs.Ytmedccfekfnmlaa.openC
