/-
  1 texts of a proof, joined.
-/
import Derived.Test.YtapcjgmijcpfiaaDoorMg20

/-
  The walk of OptsAgain.
-/
namespace Go.Proofs.YtapcjgmijcpfiaaDoor.opC
open Go.ChangeShapes Go.WideShapes Go.ChangeAt Go.RowKit
open Go.Proofs.YtapcjgmijcpfiaaDoor.memC Go.Proofs.YtapcjgmijcpfiaaDoor.genC Go.Proofs.YtapcjgmijcpfiaaDoor.butC Go.Proofs.YtapcjgmijcpfiaaDoor.freeC Go.Proofs.YtapcjgmijcpfiaaDoor.adC
open Go.Proofs.YtapcjgmijcpfiaaDoor.pkC (OwnE)
set_option linter.unusedVariables false
set_option maxRecDepth 100000 in
set_option maxHeartbeats 4000000 in
theorem again_walk (A0 : Option Addr) (n0 c0 : Nat) (bs : List Int) (w : World) (hk : Kd w) (hb : Nums .u8 w w.heap.size A0 n0 bs) (hy : ∀ x ∈ bs, Byte x) (hn : n0 ≤ 9223372036854775807) :
    Calls Tryd.prog 6 #[.slice A0 n0 c0] w (Ret w (.bool true)) := by
  have hzv := zeroOpt
  have PC := Lib.hid (cparse_any A0 n0 c0 bs w hb hy hn)
  unfold PsR at PC
  have AL := Lib.hid (fun (w' : World) (h : Below w.heap.size w w') => alive_any w' (hk.below h hk.lt))
  have HK := Lib.hid hk
  have hg := ps_good hy
  clear hb hy hn hk
  generalize psE bs = er at *
  generalize psO bs = o at *
  have ML := Lib.hid (show o.mac.length = 12 by
    rcases hg with h | h
    · exact h.2.ok.lm
    · rw [h.2]; rfl)
  have IOX := Lib.hid (fun A' n' c' => (optC ML.out A' n' c').info)
  have SZ := Lib.hid (fun A' n' c' => (optC zOpt_ok.lm none 0 0).size.trans (optC ML.out A' n' c').size.symm)
  have OO := Lib.hid (fun A' n' c' => opt_one o A' n' c')
  obtain ⟨Z, hZ⟩ : ∃ Z, Z = optV zOpt none 0 0 := ⟨_, rfl⟩
  have EB := Lib.hid (show Tryd.prog.built 27 [] = some Z by rw [hZ]; exact zOpt_built)
  have HZ := Lib.hid hZ
  rw [← hZ] at hzv SZ
  clear hZ
  rcases hg with ⟨he, hgood⟩ | ⟨he, hz⟩
  rotate_left
  · have q1 : (er != (0 : Int)) = true := by simp [he]
    have q2 : (er == (0 : Int)) = false := by simp [he]
    have q3 : er ≠ 0 := he
    subst hz
    go_enter Tryd.func6, Tryd.ntmps6
    go_upto_region 2 with (first
      | (go_at_call 22; (refine PC.out.mono ?_); rintro e w2 ⟨A2, n2, c2, rfl, l2, P2, B2⟩
         obtain rfl : n2 = 0 := l2.symm
         have HB2 := Lib.hid B2
         have PP2 := Lib.hid P2
         clear P2 B2 l2)
      | (refine wpList_store_row rfl 27 (.tmp 3) (.tmp 12) rfl w2.heap.size _ rfl rfl _ _ (heap_alloc_new _ _) (IOX.out A2 _ c2) (SZ.out A2 _ c2) (OO.out A2 _ c2) ?_; rw [World.setRow_alloc_new]))
    have B3 := Lib.hid (alloc_below w2 (.cells (optV zOpt A2 0 c2) 27))
    have HB3 := Lib.hid (HB2.out.trans (B3.out.mono HB2.out.size))
    have Q3 := Lib.hid (heap_alloc_new w2 (.cells (optV zOpt A2 0 c2) 27))
    have PP3 := Lib.hid ((PP2.out.below B3.out).more B3.out.size)
    have I3 := Lib.hid (IOX.out A2 0 c2)
    generalize w2.alloc (.cells (optV zOpt A2 0 c2) 27) = w3 at *
    have SM := Lib.hid (show Calls Tryd.prog 16 #[.agg (optV zOpt A2 0 c2), .agg Z] w3 (Ret w3 (.bool true)) by
      have h9 := csame_any zOpt zOpt A2 none 0 c2 0 0 w3 zOpt_ok.lm zOpt_ok.lm PP3.out Prs.none_ (by decide) (by decide)
      rw [sameB_self] at h9
      rw [HZ.out]
      exact h9)
    obtain ⟨C3, hC3⟩ : ∃ C3, C3 = optV zOpt A2 0 c2 := ⟨_, rfl⟩
    rw [← hC3] at Q3 SM I3
    clear hC3 hzv IOX SZ OO B3 PP2
    go_wp2_with (first
      | (refine wpList_load_rowG (by kernel_rfl) 27 (.tmp 3) rfl w2.heap.size (by kernel_rfl) _ _ _ _ Q3.out Tryd.underlying27 rfl I3.out ?_)
      | (with_reducible refine at_build 27 ?_; refine wpList_runG (by kernel_rfl) _ (built_run (T := 27) rfl EB.out) ?_)
      | (go_at_call 16; (refine SM.out.mono ?_); rintro e w4 ⟨rfl, B4⟩
         have HB4 := Lib.hid (HB3.out.trans (B4.mono HB3.out.size))
         clear B4)
      | (go_at_call 9; (refine (AL.out _ HB4.out).mono ?_); rintro e w5 ⟨rfl, B5⟩
         have HB5 := Lib.hid (HB4.out.trans (B5.mono HB4.out.size))
         clear B5))
    go_ret
    exact ⟨rfl, HB5.out⟩
  subst he
  have HG := Lib.hid hgood
  have hmay := good_may hgood
  have hmE : layE o = if mayB o = true then 0 else 1 := rfl
  have hmX : layX o = if mayB o = true then layL o else [] := rfl
  clear hgood
  go_enter Tryd.func6, Tryd.ntmps6
  go_upto_region 2 with (first
      | (go_at_call 22; (refine PC.out.mono ?_); rintro e w2 ⟨A2, n2, c2, rfl, l2, P2, B2⟩
         have HB2 := Lib.hid B2
         have PP2 := Lib.hid P2
         have L2 := Lib.hid l2
         clear P2 B2 l2)
      | (refine wpList_store_row rfl 27 (.tmp 3) (.tmp 12) rfl w2.heap.size _ rfl rfl _ _ (heap_alloc_new _ _) (IOX.out A2 _ c2) (SZ.out A2 _ c2) (OO.out A2 _ c2) ?_; rw [World.setRow_alloc_new]))
  have B3 := Lib.hid (alloc_below w2 (.cells (optV o A2 n2 c2) 27))
  have HB3 := Lib.hid (HB2.out.trans (B3.out.mono HB2.out.size))
  have Q3 := Lib.hid (heap_alloc_new w2 (.cells (optV o A2 n2 c2) 27))
  have PP3 := Lib.hid ((PP2.out.below B3.out).more B3.out.size)
  have I3 := Lib.hid (IOX.out A2 n2 c2)
  have N4 := Lib.hid (show n2 ≤ 4 by rw [← L2.out]; exact HG.out.sk)
  generalize w2.alloc (.cells (optV o A2 n2 c2) 27) = w3 at *
  have PW := Lib.hid (fun (w' : World) (h : Below w3.heap.size w3 w') => (PP3.out.below h).more h.size)
  have LA := Lib.hid (clay_any o A2 n2 c2 w3 (HK.out.below HB3.out HK.out.lt) HG.out.ok L2.out PP3.out (by have := N4.out; omega))
  have SI := Lib.hid (fun (w' : World) (h : Below w.heap.size w w') => csize_any o A2 n2 c2 w' (HK.out.below h HK.out.lt) ML.out L2.out (by have := N4.out; omega))
  have MA := Lib.hid (fun (w' : World) (h : Below w.heap.size w w') => cmay_any o A2 n2 c2 w' (HK.out.below h HK.out.lt) ML.out L2.out (by have := N4.out; omega))
  have SM := Lib.hid (fun (A' : Option Addr) (n' c' : Nat) (w' : World) (h : Below w3.heap.size w3 w') (P : Prs w' w'.heap.size A' n' o.sk) => (show Calls Tryd.prog 16 #[.agg (optV o A2 n2 c2), .agg (optV o A' n' c')] w' (Ret w' (.bool true)) by
    have h9 := csame_any o o A2 A' n2 c2 n' c' w' ML.out ML.out (PW.out w' h) P (by have := N4.out; omega) (by have := N4.out; have := L2.out; have := P.len; omega)
    rw [sameB_self] at h9
    exact h9))
  obtain ⟨C3, hC3⟩ : ∃ C3, C3 = optV o A2 n2 c2 := ⟨_, rfl⟩
  rw [← hC3] at Q3 LA SI MA SM I3
  clear hC3 B3 PP2 PC HK
  by_cases hbig : 40 < sizeN o
  · have hm : mayB o = false := by rw [hmay]; exact decide_eq_false (by omega)
    rw [hm, if_neg (by decide)] at hmE hmX
    rw [hmE, hmX] at LA
    obtain ⟨z, hz⟩ : ∃ z, z = sizeN o := ⟨_, rfl⟩
    rw [← hz] at SI hbig
    have q1 : (40 : Int) < (z : Int) := by omega
    clear hmE hmX hm hmay hz hbig IOX SZ OO SM MA hzv
    go_upto_region 5 with (first
      | (refine wpList_load_rowG (by kernel_rfl) 27 (.tmp 3) rfl w2.heap.size (by kernel_rfl) _ _ _ _ Q3.out Tryd.underlying27 rfl I3.out ?_)
      | (go_at_call 10; (refine LA.out.mono ?_); rintro e w4 ⟨A4, n4, c4, rfl, O4, B4⟩
         have HB4 := Lib.hid (HB3.out.trans (B4.mono HB3.out.size))
         have Q4 := Lib.hid (show w4.heap[w2.heap.size]? = some (.cells C3 27 (0, 0)) by rw [B4.block _ (lt_of_row Q3.out)]; exact Q3.out)
         clear O4 B4))
    go_wp2_with (first
      | (refine wpList_load_rowG (by kernel_rfl) 27 (.tmp 3) rfl w2.heap.size (by kernel_rfl) _ _ _ _ Q4.out Tryd.underlying27 rfl I3.out ?_)
      | (go_at_call 12; (refine (SI.out _ HB4.out).mono ?_); rintro e w5 ⟨rfl, B5⟩
         have HB5 := Lib.hid (HB4.out.trans (B5.mono HB4.out.size))
         clear B5)
      | (go_at_call 9; (refine (AL.out _ HB5.out).mono ?_); rintro e w6 ⟨rfl, B6⟩
         have HB6 := Lib.hid (HB5.out.trans (B6.mono HB5.out.size))
         clear B6))
    go_ret
    exact ⟨rfl, HB6.out⟩
  have hm : mayB o = true := by rw [hmay]; exact decide_eq_true (by omega)
  obtain ⟨pe, po⟩ := ps_lay HG.out.ok hm
  have PS := Lib.hid (fun (A' : Option Addr) (n' c' : Nat) (w' : World) (N : Nums .u8 w' w'.heap.size A' n' (layL o)) (h : n' ≤ 40) => cparse_any A' n' c' (layL o) w' N (layL_byte HG.out.ok) (by omega))
  unfold PsR at PS
  rw [pe, po] at PS
  have LL := Lib.hid (show (layL o).length ≤ 40 by rw [lay_len ML.out]; omega)
  rw [hm] at MA
  rw [hm, if_pos rfl] at hmE hmX
  rw [hmE, hmX] at LA
  obtain ⟨z, hz⟩ : ∃ z, z = sizeN o := ⟨_, rfl⟩
  rw [← hz] at SI hbig
  have q1 : ¬ (40 : Int) < (z : Int) := by omega
  clear hmE hmX hm hmay hz hbig pe po
  go_upto_region 5 with (first
      | (refine wpList_load_rowG (by kernel_rfl) 27 (.tmp 3) rfl w2.heap.size (by kernel_rfl) _ _ _ _ Q3.out Tryd.underlying27 rfl I3.out ?_)
      | (go_at_call 10; (refine LA.out.mono ?_); rintro e w4 ⟨A4, n4, c4, rfl, O4, B4⟩
         have HB4 := Lib.hid (HB3.out.trans (B4.mono HB3.out.size))
         have G4 := Lib.hid B4
         have Q4 := Lib.hid (show w4.heap[w2.heap.size]? = some (.cells C3 27 (0, 0)) by rw [B4.block _ (lt_of_row Q3.out)]; exact Q3.out)
         have N4' := Lib.hid (show n4 ≤ 40 by rw [← O4.len]; exact LL.out)
         have M4 := Lib.hid O4.nums
         clear O4 B4))
  go_upto_region 7 with (first
      | (refine wpList_load_rowG (by kernel_rfl) 27 (.tmp 3) rfl w2.heap.size (by kernel_rfl) _ _ _ _ Q4.out Tryd.underlying27 rfl I3.out ?_)
      | (go_at_call 12; (refine (SI.out _ HB4.out).mono ?_); rintro e w5 ⟨rfl, B5⟩
         have HB5 := Lib.hid (HB4.out.trans (B5.mono HB4.out.size))
         have G5 := Lib.hid (G4.out.trans (B5.mono G4.out.size))
         have Q5 := Lib.hid (show w5.heap[w2.heap.size]? = some (.cells C3 27 (0, 0)) by rw [B5.block _ (lt_of_row Q4.out)]; exact Q4.out)
         have M5 := Lib.hid ((M4.out.below B5).more B5.size)
         have P5 := Lib.hid (PS.out A4 n4 c4 w5 M5.out N4'.out)
         clear B5))
  clear PS LA SI M4 M5 G4 Q4
  go_upto_region 8 with (first
      | (go_at_call 22; (refine P5.out.mono ?_); rintro e w6 ⟨A6, n6, c6, rfl, l6, N6, B6⟩
         have HB6 := Lib.hid (HB5.out.trans (B6.mono HB5.out.size))
         have G6 := Lib.hid (G5.out.trans (B6.mono G5.out.size))
         have Q6 := Lib.hid (show w6.heap[w2.heap.size]? = some (.cells C3 27 (0, 0)) by rw [B6.block _ (lt_of_row Q5.out)]; exact Q5.out)
         have PP6 := Lib.hid N6
         clear N6 B6 l6)
      | (refine wpList_store_row rfl 27 (.tmp 7) (.tmp 38) rfl w6.heap.size _ rfl rfl _ _ (heap_alloc_new _ _) (IOX.out A6 _ c6) (SZ.out A6 _ c6) (OO.out A6 _ c6) ?_; rw [World.setRow_alloc_new]))
  have B7 := Lib.hid (alloc_below w6 (.cells (optV o A6 n6 c6) 27))
  have HB7 := Lib.hid (HB6.out.trans (B7.out.mono HB6.out.size))
  have G7 := Lib.hid (G6.out.trans (B7.out.mono G6.out.size))
  have R7 := Lib.hid (show (w6.alloc (.cells (optV o A6 n6 c6) 27)).heap[w2.heap.size]? = some (.cells C3 27 (0, 0)) by rw [B7.out.block _ (lt_of_row Q6.out)]; exact Q6.out)
  have Q7 := Lib.hid (heap_alloc_new w6 (.cells (optV o A6 n6 c6) 27))
  have PP7 := Lib.hid ((PP6.out.below B7.out).more B7.out.size)
  have I6 := Lib.hid (IOX.out A6 n6 c6)
  generalize w6.alloc (.cells (optV o A6 n6 c6) 27) = w7 at *
  have SM7 := Lib.hid (fun (w' : World) (h : Below w7.heap.size w7 w') => SM.out A6 n6 c6 w' (G7.out.trans (h.mono G7.out.size)) ((PP7.out.below h).more h.size))
  obtain ⟨C6, hC6⟩ : ∃ C6, C6 = optV o A6 n6 c6 := ⟨_, rfl⟩
  rw [← hC6] at Q7 SM7 I6
  clear hzv hC6 SM IOX OO SZ
  go_wp2_with (first
      | (with_reducible refine atC.at_load 27 3 ?_; refine wpList_load_rowG (by kernel_rfl) 27 (.tmp 3) rfl w2.heap.size (by kernel_rfl) _ _ _ _ R7.out Tryd.underlying27 rfl I3.out ?_)
      | (go_at_call 14; (refine (MA.out _ HB7.out).mono ?_); rintro e w8 ⟨rfl, B8⟩
         have HB8 := Lib.hid (HB7.out.trans (B8.mono HB7.out.size))
         have R8 := Lib.hid (show w8.heap[w2.heap.size]? = some (.cells C3 27 (0, 0)) by rw [B8.block _ (lt_of_row R7.out)]; exact R7.out)
         have Q8 := Lib.hid (show w8.heap[w6.heap.size]? = some (.cells C6 27 (0, 0)) by rw [B8.block _ (lt_of_row Q7.out)]; exact Q7.out)
         have SM8 := Lib.hid (SM7.out w8 B8)
         clear B8)
      | (with_reducible refine atC.at_load 27 3 ?_; refine wpList_load_rowG (by kernel_rfl) 27 (.tmp 3) rfl w2.heap.size (by kernel_rfl) _ _ _ _ R8.out Tryd.underlying27 rfl I3.out ?_)
      | (with_reducible refine atC.at_load 27 7 ?_; refine wpList_load_rowG (by kernel_rfl) 27 (.tmp 7) rfl w6.heap.size (by kernel_rfl) _ _ _ _ Q8.out Tryd.underlying27 rfl I6.out ?_)
      | (go_at_call 16; (refine SM8.out.mono ?_); rintro e w9 ⟨rfl, B9⟩
         have HB9 := Lib.hid (HB8.out.trans (B9.mono HB8.out.size))
         clear B9)
      | (go_at_call 9; (refine (AL.out _ HB9.out).mono ?_); rintro e w10 ⟨rfl, B10⟩
         have HB10 := Lib.hid (HB9.out.trans (B10.mono HB9.out.size))
         clear B10))
  go_ret
  exact ⟨rfl, HB10.out⟩
end Go.Proofs.YtapcjgmijcpfiaaDoor.opC
