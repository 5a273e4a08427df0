/-
  2 texts of a proof, joined.
-/
import Derived.Test.YtbhcpbihbecphaaMg26
import Derived.Test.YtbhcpbihbecphaaMg27
import Derived.Test.YtbhcpbihbecphaaMg28

/-
  A header more: the document's Wrap.
-/
namespace Go.Proofs.Ytbhcpbihbecphaa.sxC
open Go.ChangeShapes Go.WideShapes Go.ChangeAt Go.RowKit
open Go.Proofs.Ytbhcpbihbecphaa.memC Go.Proofs.Ytbhcpbihbecphaa.genC Go.Proofs.Ytbhcpbihbecphaa.butC Go.Proofs.Ytbhcpbihbecphaa.freeC Go.Proofs.Ytbhcpbihbecphaa.adC Go.Proofs.Ytbhcpbihbecphaa.pkC
set_option linter.unusedVariables false
def wkR (B : Nat) (vv : Value) (x : Int) (X0 X1 X2 : List Int) : Nat → (Nat → Value) → World → Prop
  | 0, us, w => us 7 = vv ∧ B ≤ w.heap.size ∧ Own .u8 5 w B vv X0
  | 1, us, w => us 7 = vv ∧ B ≤ w.heap.size ∧ Own .u8 5 w B vv X0 ∧ ∃ q, us 2 = .slice (some ⟨q, 0, none⟩) 1 1 ∧ w.heap[q]? = some (.cells #[.int .u8 x] 5 (0, 0))
  | 2, us, w => B ≤ w.heap.size ∧ Own .u8 5 w B (us 3) X1
  | 3, us, w => B ≤ w.heap.size ∧ Own .u8 5 w B (us 6) X2
  | 4, us, w => B ≤ w.heap.size ∧ Own .u8 5 w B (us 7) X2
  | _, _, _ => True
theorem wkR.keep (B : Nat) (vv : Value) (x : Int) (X0 X1 X2 : List Int) (k : Nat) (us us' : Nat → Value) (w w' : World) (h : ∀ x ∈ [2, 3, 6, 7], us' x = us x) (hb : Below w.heap.size w w') (hR : wkR B vv x X0 X1 X2 k us w) : wkR B vv x X0 X1 X2 k us' w' := by
  have h2 := h 2 (by simp); have h3 := h 3 (by simp); have h6 := h 6 (by simp); have h7 := h 7 (by simp)
  have hz := hb.size
  unfold wkR at hR ⊢
  split at hR
  · exact ⟨h7.trans hR.1, Nat.le_trans hR.2.1 hz, hR.2.2.below hb⟩
  · obtain ⟨h0, h1, h2', q, h3', h6'⟩ := hR
    exact ⟨h7.trans h0, Nat.le_trans h1 hz, h2'.below hb, q, h2.trans h3', by rw [hb.block _ (lt_of_row h6')]; exact h6'⟩
  · rw [h3]; exact ⟨Nat.le_trans hR.1 hz, hR.2.below hb⟩
  · rw [h6]; exact ⟨Nat.le_trans hR.1 hz, hR.2.below hb⟩
  · rw [h7]; exact ⟨Nat.le_trans hR.1 hz, hR.2.below hb⟩
  · trivial
def waV (b o n c g8 : Nat) (b6 pr S : Int) : Nat → Value → World → Prop
  | 0, v, _ => v = .pointer (some ⟨g8, 37, none⟩)
  | 1, v, _ => v = .bool false
  | 2, v, _ => v = .bool true
  | 3, v, _ => v = .bool true
  | 10, v, _ => v = .bool true
  | 11, v, _ => v = .bool true
  | 14, v, _ => v = .bool true
  | _, _, _ => True
theorem waV.keep (b o n c g8 : Nat) (b6 pr S : Int) (i : Nat) (v : Value) (w w' : World) (hb : Below w.heap.size w w') (h : waV b o n c g8 b6 pr S i v w) : waV b o n c g8 b6 pr S i v w' := by
  unfold waV at h ⊢
  split at h <;> exact h
def waT : List (Option Nat) := [none, none, none, none, none, none, none, none, none, none, none, none, none, none, none, none, none, none, none, none, none, none, none, none, none, none, none, none, none, none, none, none, none, none, none, none, none, none, none, none, none, none, none, none, none, none, none, some 0, some 1, some 2, some 3, some 4, some 5, some 6, some 7, some 8, some 9, some 10, some 11, some 12, some 13, some 14, none, none, none, none, none, none, none, none, none, none, none, none, none, none, none, none, none, none, none, none, none, none, none, none, none, none, none, none, none, none, none]
def wbV (b o n c g8 : Nat) (b6 pr S : Int) : Nat → Value → World → Prop
  | 0, v, _ => v = .pointer (some ⟨g8, 37, none⟩)
  | 1, v, _ => v = .bool true
  | 2, v, _ => v = .bool false
  | 3, v, _ => v = .bool false
  | 4, v, _ => v = .slice (some ⟨b, o, none⟩) n c
  | 5, v, _ => v = .pointer (some ⟨b, o + 6, none⟩)
  | 6, v, _ => v = .int .u8 b6
  | 7, v, _ => v = .pointer (some ⟨g8, 34, none⟩)
  | 8, v, _ => v = .int .u8 pr
  | 9, v, _ => v = .bool true
  | 10, v, _ => v = .bool true
  | 11, v, _ => v = .bool true
  | 14, v, _ => v = .bool true
  | _, _, _ => True
theorem wbV.keep (b o n c g8 : Nat) (b6 pr S : Int) (i : Nat) (v : Value) (w w' : World) (hb : Below w.heap.size w w') (h : wbV b o n c g8 b6 pr S i v w) : wbV b o n c g8 b6 pr S i v w' := by
  unfold wbV at h ⊢
  split at h <;> exact h
def wbT : List (Option Nat) := [none, none, none, none, none, none, none, none, none, none, none, none, none, none, none, none, none, none, none, none, none, none, none, none, none, none, none, none, none, none, none, none, none, none, none, none, none, none, none, none, none, none, none, none, none, none, none, some 0, some 1, some 2, some 3, some 4, some 5, some 6, some 7, some 8, some 9, some 10, some 11, some 12, some 13, some 14, none, none, none, none, none, none, none, none, none, none, none, none, none, none, none, none, none, none, none, none, none, none, none, none, none, none, none, none, none, none, none]
def wdV (b o n c g8 : Nat) (b6 pr S : Int) : Nat → Value → World → Prop
  | 0, v, _ => v = .pointer (some ⟨g8, 37, none⟩)
  | 1, v, _ => v = .bool true
  | 2, v, _ => v = .bool false
  | 3, v, _ => v = .bool false
  | 4, v, _ => v = .slice (some ⟨b, o, none⟩) n c
  | 5, v, _ => v = .pointer (some ⟨b, o + 6, none⟩)
  | 6, v, _ => v = .int .u8 b6
  | 7, v, _ => v = .pointer (some ⟨g8, 34, none⟩)
  | 8, v, _ => v = .int .u8 pr
  | 9, v, _ => v = .bool false
  | 10, v, _ => v = .bool false
  | 11, v, _ => v = .bool false
  | 12, v, _ => v = .int .i64 S
  | 13, v, _ => v = .bool false
  | 14, v, _ => v = .bool false
  | _, _, _ => True
theorem wdV.keep (b o n c g8 : Nat) (b6 pr S : Int) (i : Nat) (v : Value) (w w' : World) (hb : Below w.heap.size w w') (h : wdV b o n c g8 b6 pr S i v w) : wdV b o n c g8 b6 pr S i v w' := by
  unfold wdV at h ⊢
  split at h <;> exact h
def wdT : List (Option Nat) := [none, none, none, none, none, none, none, none, none, none, none, none, none, none, none, none, none, none, none, none, none, none, none, none, none, none, none, none, none, none, none, none, none, none, none, none, none, none, none, none, none, none, none, none, none, none, none, some 0, some 1, some 2, some 3, some 4, some 5, some 6, some 7, some 8, some 9, some 10, some 11, some 12, some 13, some 14, none, none, none, none, none, none, none, none, none, none, none, none, none, none, none, none, none, none, none, none, none, none, none, none, none, none, none, none, none, none, none]
def wkV (b o n c c33 B : Nat) (x : Int) (A5 : Option Addr) (c5 : Nat) : Nat → Value → World → Prop
  | 0, v, _ => v = .slice A5 6 c5
  | 1, v, _ => v = .int .u8 x
  | 4, v, _ => v = .slice (some ⟨b, o, none⟩) n c
  | 5, v, _ => v = .slice (some ⟨b, o + 7, none⟩) 33 c33
  | _, _, _ => True
theorem wkV.keep (b o n c c33 B : Nat) (x : Int) (A5 : Option Addr) (c5 : Nat) (i : Nat) (v : Value) (w w' : World) (hd : Below w.heap.size w w' ∨ Below B w w') (h : wkV b o n c c33 B x A5 c5 i v w) : wkV b o n c c33 B x A5 c5 i v w' := by
  unfold wkV at h ⊢
  split at h <;> exact h
def wkT : List (Option Nat) := [none, none, none, none, none, none, none, none, none, none, none, some 7, none, none, none, none, none, none, none, none, none, none, none, none, none, none, none, none, none, none, none, none, none, none, none, none, none, none, none, none, none, none, none, none, none, none, none, none, none, none, none, none, none, none, none, none, none, none, none, none, none, none, none, none, none, none, none, none, some 0, some 1, some 2, some 3, some 4, some 5, some 6, none, none, none, none, none, none, none, none, none, none, none, none, none, none, none, none, none, none]
def wgV (b o n c B : Nat) (vv : Value) (A2 : Option Addr) (m c2 : Nat) (A9 : Option Addr) (n9 c9 : Nat) : Nat → Value → World → Prop
  | 0, v, _ => v = vv
  | 1, v, _ => v = .slice A2 m c2
  | 3, v, _ => v = .slice (some ⟨b, o, none⟩) n c
  | 4, v, _ => v = .slice A9 n9 c9
  | 7, v, _ => v = .int .i64 0
  | _, _, _ => True
theorem wgV.keep (b o n c B : Nat) (vv : Value) (A2 : Option Addr) (m c2 : Nat) (A9 : Option Addr) (n9 c9 : Nat) (i : Nat) (v : Value) (w w' : World) (hd : Below w.heap.size w w' ∨ Below B w w') (h : wgV b o n c B vv A2 m c2 A9 n9 c9 i v w) : wgV b o n c B vv A2 m c2 A9 n9 c9 i v w' := by
  unfold wgV at h ⊢
  split at h <;> exact h
def wgT : List (Option Nat) := [none, none, none, none, none, none, some 6, some 7, none, none, none, none, none, none, none, none, none, none, none, none, none, none, none, none, none, none, none, none, none, none, none, none, none, none, none, none, none, none, none, none, none, none, none, none, none, none, none, none, none, none, none, none, none, none, none, none, none, none, none, none, none, none, none, none, none, none, none, none, none, none, none, none, none, none, none, none, none, none, none, none, none, none, none, none, none, none, none, some 0, some 1, some 2, some 3, some 4, some 5]
set_option maxRecDepth 100000 in
set_option maxHeartbeats 8000000 in
theorem rwrap_any (A : Option Addr) (n c : Nat) (bs : List Int) (x : Int) (A2 : Option Addr) (m c2 : Nat) (ls : List Int) (w : World) (hb : Nums .u8 w w.heap.size A n bs) (hy : ∀ x ∈ bs, Byte x) (hx : Byte x) (hls : Nums .u8 w w.heap.size A2 m ls) (hyl : ∀ x ∈ ls, Byte x) (hn : n ≤ 3000) (hm : m ≤ 3000) (hnc : n ≤ c) (hcm : c ≤ 9223372036854775807) :
    Calls Try.prog 21 #[.slice A n c, .int .u8 x, .slice A2 m c2] w (WrR w bs x ls) := by
  have hzv := zeroPkt
  obtain ⟨i0, hi0, hz0, hz1, hz2⟩ := info_parts byte_inf
  have T1' := Lib.hid hi0; have T2 := Lib.hid hz0; have T3 := Lib.hid hz1; have T4 := Lib.hid hz2
  have HN := Lib.hid (fun w' (h : Below w.heap.size w w') => (hb.below h).more h.size)
  have HLS := Lib.hid (fun w' (h : Below w.heap.size w w') => (hls.below h).more h.size)
  have HY := Lib.hid hy
  have HYL := Lib.hid hyl
  have HL := Lib.hid hb.len
  have HLM := Lib.hid hls.len
  have P0 := Lib.hid (rparse_any A n c bs w hb hy (by omega) hnc hcm)
  have UPP := Lib.hid (fun A n c => (pkC (psP_ok hy) A n c).info)
  have SPP := Lib.hid (fun A n c => (pkC zPkt_ok none 0 0).size.trans (pkC (psP_ok hy) A n c).size.symm)
  have OPP := Lib.hid (fun A n c => pkt_one (psP bs) A n c)
  have PRR := Lib.hid (fun A n c => (pkC (psP_ok hy) A n c).proto)
  have PWW := Lib.hid (fun A n c => (pkC (psP_ok hy) A n c).whole)
  have HC := Lib.hid hnc
  have HM := Lib.hid hcm
  have H3 := Lib.hid hn
  have M3 := Lib.hid hm
  have HXB := Lib.hid hx
  have hm3 : (m : Int) ≤ 3000 := by omega
  have tm : (m : Int).tmod 8 = ((m % 8 : Nat) : Int) := by rw [Int.tmod_eq_emod_of_nonneg (by omega)]; omega
  obtain ⟨tb, htb⟩ : ∃ tb, tb = tellB x := ⟨_, rfl⟩
  have ETB := Lib.hid htb.symm
  cases tb
  · have E := Lib.hid (wrE_0 (bs := bs) (ls := ls) ETB.out)
    have hne : x ≠ 0 ∧ x ≠ 43 ∧ x ≠ 60 := ⟨fun h => (by subst h; exact absurd htb (by decide)), fun h => (by subst h; exact absurd htb (by decide)), fun h => (by subst h; exact absurd htb (by decide))⟩
    have q0 : (x != 0) = true := by rw [bne, beq_eq_false_iff_ne.2 hne.1]; rfl
    have q43 : (x != 43) = true := by rw [bne, beq_eq_false_iff_ne.2 hne.2.1]; rfl
    have q60 : (x != 60) = true := by rw [bne, beq_eq_false_iff_ne.2 hne.2.2]; rfl
    clear hb hy hx hls hyl hn hm hnc hcm hzv htb hne hi0 hz0 hz1 hz2
    go_enter Try.func21, Try.ntmps21
    go_wp2_with fail
    go_ret2
    exact wr_err E.out (by decide) (Below.refl _ _)
  have Q : ((x != 0) = false ∧ True ∧ True) ∨ ((x != 0) = true ∧ (x != 43) = false ∧ True) ∨ ((x != 0) = true ∧ (x != 43) = true ∧ (x != 60) = false) := by
    rcases tellB_iff.1 ETB.out with h | h | h
    · exact .inl ⟨by rw [h]; rfl, trivial, trivial⟩
    · exact .inr (.inl ⟨by rw [h]; rfl, by rw [h]; rfl, trivial⟩)
    · exact .inr (.inr ⟨by rw [h]; rfl, by rw [h]; rfl, by rw [h]; rfl⟩)
  clear htb
  rcases Q with ⟨q0, q43, q60⟩ | ⟨q0, q43, q60⟩ | ⟨q0, q43, q60⟩
  all_goals (
    by_cases h6 : m % 8 = 6
    rotate_left
    · have E := Lib.hid (wrE_1 (bs := bs) ETB.out (.inl (by rw [HLM.out]; exact h6)))
      have q6 : (((m % 8 : Nat) : Int) == 6) = false := beq_eq_false_iff_ne.2 (by omega)
      obtain ⟨r, hr⟩ : ∃ r : Int, r = ((m % 8 : Nat) : Int) := ⟨_, rfl⟩
      rw [← hr] at q6 tm
      have q6b : (r != 6) = true := by rw [bne, q6]; rfl
      clear hb hy hx hls hyl hn hm hnc hcm hzv h6 hr hi0 hz0 hz1 hz2
      go_enter Try.func21, Try.ntmps21
      go_wp2_with fail
      go_ret2
      exact wr_err E.out (by decide) (Below.refl _ _)
    have t6 : (m : Int).tmod 8 = 6 := by rw [tm, h6]; rfl
    by_cases h46 : 2046 < m
    · have E := Lib.hid (wrE_1 (bs := bs) ETB.out (.inr (by rw [HLM.out]; exact h46)))
      have q46 : (2046 : Int) < (m : Int) := by omega
      clear hb hy hx hls hyl hn hm hnc hcm hzv h6 tm hi0 hz0 hz1 hz2
      go_enter Try.func21, Try.ntmps21
      go_wp2_with fail
      go_ret2
      exact wr_err E.out (by decide) (Below.refl _ _)
    have q46 : decide ((2046 : Int) < (m : Int)) = false := decide_eq_false (by omega)
    have M6 := Lib.hid (show ls.length % 8 = 6 by rw [HLM.out]; exact h6)
    have M46 := Lib.hid (show ls.length ≤ 2046 by rw [HLM.out]; omega)
    obtain ⟨k, hk⟩ : ∃ k, k = psE bs := ⟨_, rfl⟩
    have EK := Lib.hid hk
    unfold PsR at P0
    rw [← hk] at P0
    generalize hZ : pktV zPkt none 0 0 = Z at *
    clear hb hy hx hls hyl hn hm hnc hcm hk hZ h6 h46 tm hi0 hz0 hz1 hz2
    go_enter Try.func21, Try.ntmps21
    go_upto_region 6 with (first
      | (go_at_call 16; (refine P0.out.mono ?_); rintro e v1 ⟨A1, n1, c1, rfl, N1, B1⟩
         have HB1 := Lib.hid B1
         have UP := Lib.hid (UPP.out A1 n1 c1)
         have SP := Lib.hid (SPP.out A1 n1 c1)
         have OP := Lib.hid (OPP.out A1 n1 c1)
         have HPR := Lib.hid (PRR.out A1 n1 c1)
         have HPW := Lib.hid (PWW.out A1 n1 c1)
         generalize pktV (psP bs) A1 n1 c1 = PK at *
         have RN := Lib.hid (show (v1.alloc (.cells Z 28)).heap[v1.heap.size]? = some (.cells Z 28 (0, 0)) from heap_alloc_new v1 _)
         clear N1 B1)
      | (refine wpList_store_row rfl 28 (.tmp 8) (.tmp 34) rfl v1.heap.size _ rfl rfl _ _ RN.out UP.out SP.out OP.out ?_))
    rw [World.setRow_alloc_new]
    have R2 := Lib.hid (show (v1.alloc (.cells PK 28)).heap[v1.heap.size]? = some (.cells PK 28 (0, 0)) from heap_alloc_new v1 _)
    have HB2 := Lib.hid (HB1.out.trans ((alloc_below v1 (.cells PK 28)).mono HB1.out.size))
    clear RN UPP SPP OPP PRR PWW P0 HB1 hzv t6 q46 q0 q43 q60
    obtain ⟨g8, hg8⟩ : ∃ g, g = v1.heap.size := ⟨_, rfl⟩
    rw [← hg8] at R2
    generalize v1.alloc (.cells PK 28) = v3 at *
    rw [← hg8]
    clear hg8
    by_cases hk0 : k = 0
    rotate_left
    · have q : (k == 0) = false := beq_eq_false_iff_ne.2 hk0
      have E := Lib.hid (show wrE bs x ls = k by rw [EK.out]; exact wrE_2 ETB.out M6.out M46.out (by rw [← EK.out]; exact hk0))
      have HK0 := Lib.hid hk0
      clear hk0
      go_wp2_with fail
      go_ret2
      exact wr_err E.out HK0.out HB2.out
    subst hk0
    have EK0 := Lib.hid EK.out.symm
    have h40 := (psE_ok EK0.out).1
    have hT40 := (psE_ok EK0.out).2.2.1
    have H40 := Lib.hid h40
    have ep : (psP bs).proto = (pkOf bs).proto := by unfold psP; rw [if_pos EK0.out]
    have ew : (psP bs).whole = (pkOf bs).whole := by unfold psP; rw [if_pos EK0.out]
    rw [ep] at HPR
    rw [ew] at HPW
    have hn40 : 40 ≤ n := by rw [← HL.out]; exact h40
    obtain ⟨b, o, rfl, hlt, hcell⟩ := (HN.out w (Below.refl _ _)).at_ (by omega)
    obtain ⟨pr, hpr⟩ : ∃ z, z = (pkOf bs).proto := ⟨_, rfl⟩
    have EPR := Lib.hid hpr
    rw [← hpr] at HPR
    obtain ⟨wl, hwl⟩ : ∃ z, z = (pkOf bs).whole := ⟨_, rfl⟩
    rw [← hwl] at HPW
    obtain ⟨b6, hb6⟩ : ∃ z, z = bs.getD 6 0 := ⟨_, rfl⟩
    have EB6 := Lib.hid hb6
    have C6W := Lib.hid (fun w' (h : Below w.heap.size w w') => (show w'.cell? ⟨b, o + 6, none⟩ = some (.int .u8 b6) by
      rw [hb6]
      exact (h.cell (p := ⟨b, o + 6, none⟩) hlt).trans (hcell 6 (by omega))))
    have C6 := Lib.hid (fun w' (h : Gr v3 w') => C6W.out w' (HB2.out.trans (Below.mono h HB2.out.size)))
    have K34 := Lib.hid (fun w' (h : Gr v3 w') => PkC.cell (Gr.row h R2.out) HPR.out)
    have K37 := Lib.hid (fun w' (h : Gr v3 w') => PkC.cell (Gr.row h R2.out) HPW.out)
    have L6z := Lib.hid (show (6 : Int) < (n : Int) by omega)
    have LN40 := Lib.hid hn40
    obtain ⟨tv0, tv1⟩ := w2_bd HY.out 4
    obtain ⟨N, hN⟩ : ∃ N, N = toldN bs := ⟨_, rfl⟩
    have eT : w2 bs 4 = (N : Int) := by rw [hN]; unfold toldN; omega
    have EN := Lib.hid hN
    have hN3 : N ≤ 3000 := by have := H3.out; have := HL.out; omega
    have GT := Lib.hid (show Calls Try.prog 34 #[.slice (some ⟨b, o + 4, none⟩) 2 (c - 4)] v3 (fun e w'' => e = .returned (.int .u64 (N : Int)) ∧ v3 = w'') by
      have t := get2_at b o n c 4 bs v3 (HN.out v3 HB2.out) HY.out (by have := LN40.out; omega) (c - 4) (by have := LN40.out; have := HC.out; omega) (by have := HM.out; omega)
      rw [eT] at t
      exact t)
    have sc4 := cut_at b o n c 4 6 2 (c - 4) 4 6 rfl rfl (by decide) (by have := LN40.out; have := HC.out; omega) (by have := LN40.out; have := HC.out; omega) rfl rfl
    have wN : IntKind.i64.wrap (N : Int) = (N : Int) := IntWalk.i64_in _ (by omega)
    obtain ⟨S1, hS1⟩ : ∃ S : Int, S = (N : Int) + (m : Int) := ⟨_, rfl⟩
    obtain ⟨S, hS⟩ : ∃ S : Int, S = S1 + 2 := ⟨_, rfl⟩
    have e1 := hS1.symm
    have e2 := hS.symm
    have w1 : IntKind.i64.wrap S1 = S1 := IntWalk.i64_in _ (by omega)
    have wS : IntKind.i64.wrap S = S := IntWalk.i64_in _ (by omega)
    have ESN := Lib.hid (show S = (N : Int) + (m : Int) + 2 by omega)
    have SBD := Lib.hid (show 0 ≤ S ∧ S ≤ 65535 by omega)
    clear EK ep ew h40 hT40 hpr hb6 hcell hn40 tv0 tv1 eT hN hN3 hS1 hS
    go_upto_region 9 with (first
      | (go_at_call 34; (refine GT.out.mono ?_); rintro e w' ⟨rfl, rfl⟩))
    clear sc4 wN e1 e2 w1 wS GT
    by_cases h66 : b6 = pr
    rotate_left
    · have Q6 := Lib.hid h66
      have E := Lib.hid (wrE_3 (x := x) ETB.out M6.out M46.out EK0.out (by rw [← EB6.out, ← EPR.out]; exact h66))
      clear h66 hwl
      cases wl
      · refine with_act fun a0 ha0 => ?_
        have hl : waT.length = a0.tmps.size := by rw [ha0]; rfl
        have k0 : a0.tmps[0]?.getD undef = .slice (some ⟨b, o, none⟩) n c := by rw [ha0]; rfl
        have k8 : a0.tmps[8]?.getD undef = .pointer (some ⟨g8, 0, none⟩) := by rw [ha0]; rfl
        have k10 : a0.tmps[10]?.getD undef = .int .i64 S := by rw [ha0]; rfl
        refine wp_region_vals (by kernel_rfl) waT (by kernel_rfl) (by kernel_rfl) hl (fun i => undef) (by rw [ha0]; rfl) (Gr v3) (waV b o n c g8 b6 pr S) (gr_drew _) (waV.keep _ _ _ _ _ _ _ _) ⟨?_, ?_, ?_, ?_, ?_, ?_, ?_, ?_, ?_, ?_, ?_, ?_, ?_, ?_, ?_, trivial⟩ ?_
        · refine step_plain [] (by kernel_rfl) rfl fun us w' hG hV => ?_
          have o8 := (frame_old2 (us := us) (a := a0) (show (waT[8]?).join = none from rfl)).trans k8
          generalize frame waT a0 us = fr at *
          exact val_ok (v := .pointer (some ⟨g8, 37, none⟩)) (w' := w') (by go_simp) hG (Below.refl _ _) rfl
        · refine step_plain [0] (by kernel_rfl) rfl fun us w' hG hV => ?_
          have e0 : us 0 = .pointer (some ⟨g8, 37, none⟩) := hV 0 (by simp)
          have v0 := (frame_at2 (us := us) hl (show (waT[47]?).join = some 0 from rfl)).trans e0
          have hc := K37.out w' hG
          generalize frame waT a0 us = fr at *
          exact val_ok (v := .bool false) (w' := w') (by go_simp) hG (Below.refl _ _) rfl
        · refine step_plain [1] (by kernel_rfl) rfl fun us w' hG hV => ?_
          have e1 : us 1 = .bool false := hV 1 (by simp)
          have v1 := (frame_at2 (us := us) hl (show (waT[48]?).join = some 1 from rfl)).trans e1
          generalize frame waT a0 us = fr at *
          exact val_ok (v := .bool true) (w' := w') (by go_simp) hG (Below.refl _ _) rfl
        · refine step_plain [2] (by kernel_rfl) rfl fun us w' hG hV => ?_
          have e2 : us 2 = .bool true := hV 2 (by simp)
          have v2 := (frame_at2 (us := us) hl (show (waT[49]?).join = some 2 from rfl)).trans e2
          generalize frame waT a0 us = fr at *
          exact val_ok (v := .bool true) (w' := w') (by go_simp) hG (Below.refl _ _) rfl
        · exact step_skip [3] (by kernel_rfl) (j := 3) (t := 50) (b := false) rfl (by simp) rfl hl rfl (fun v w h => h) fun _ => trivial
        · exact step_skip [3] (by kernel_rfl) (j := 3) (t := 50) (b := false) rfl (by simp) rfl hl rfl (fun v w h => h) fun _ => trivial
        · exact step_skip [3] (by kernel_rfl) (j := 3) (t := 50) (b := false) rfl (by simp) rfl hl rfl (fun v w h => h) fun _ => trivial
        · exact step_skip [3] (by kernel_rfl) (j := 3) (t := 50) (b := false) rfl (by simp) rfl hl rfl (fun v w h => h) fun _ => trivial
        · exact step_skip [3] (by kernel_rfl) (j := 3) (t := 50) (b := false) rfl (by simp) rfl hl rfl (fun v w h => h) fun _ => trivial
        · exact step_skip [3] (by kernel_rfl) (j := 3) (t := 50) (b := false) rfl (by simp) rfl hl rfl (fun v w h => h) fun _ => trivial
        · refine step_plain [3] (by kernel_rfl) rfl fun us w' hG hV => ?_
          have e3 : us 3 = .bool true := hV 3 (by simp)
          have v3 := (frame_at2 (us := us) hl (show (waT[50]?).join = some 3 from rfl)).trans e3
          generalize frame waT a0 us = fr at *
          exact val_ok (v := .bool true) (w' := w') (by go_simp) hG (Below.refl _ _) rfl
        · refine step_plain [10] (by kernel_rfl) rfl fun us w' hG hV => ?_
          have e10 : us 10 = .bool true := hV 10 (by simp)
          have v10 := (frame_at2 (us := us) hl (show (waT[57]?).join = some 10 from rfl)).trans e10
          generalize frame waT a0 us = fr at *
          exact val_ok (v := .bool true) (w' := w') (by go_simp) hG (Below.refl _ _) rfl
        · exact step_skip [11] (by kernel_rfl) (j := 11) (t := 58) (b := false) rfl (by simp) rfl hl rfl (fun v w h => h) fun _ => trivial
        · exact step_skip [11] (by kernel_rfl) (j := 11) (t := 58) (b := false) rfl (by simp) rfl hl rfl (fun v w h => h) fun _ => trivial
        · refine step_plain [11] (by kernel_rfl) rfl fun us w' hG hV => ?_
          have e11 : us 11 = .bool true := hV 11 (by simp)
          have v11 := (frame_at2 (us := us) hl (show (waT[58]?).join = some 11 from rfl)).trans e11
          generalize frame waT a0 us = fr at *
          exact val_ok (v := .bool true) (w' := w') (by go_simp) hG (Below.refl _ _) rfl
        · intro us v4 hG hV
          have e14 : us 14 = .bool true := hV 14 (by decide)
          subst ha0
          simp only [frame, waT, fill]
          rw [e14]
          have HG4 := Lib.hid hG
          clear hV hl hG k0 k8 k10 e14
          generalize us 0 = z0 at *
          generalize us 1 = z1 at *
          generalize us 2 = z2 at *
          generalize us 3 = z3 at *
          generalize us 4 = z4 at *
          generalize us 5 = z5 at *
          generalize us 6 = z6 at *
          generalize us 7 = z7 at *
          generalize us 8 = z8 at *
          generalize us 9 = z9 at *
          generalize us 10 = z10 at *
          generalize us 11 = z11 at *
          generalize us 12 = z12 at *
          generalize us 13 = z13 at *
          clear us
          go_wp2_with fail
          go_ret2
          exact wr_err E.out (by decide) (HB2.out.trans (Below.mono HG4.out HB2.out.size))
      · refine with_act fun a0 ha0 => ?_
        have hl : wbT.length = a0.tmps.size := by rw [ha0]; rfl
        have k0 : a0.tmps[0]?.getD undef = .slice (some ⟨b, o, none⟩) n c := by rw [ha0]; rfl
        have k8 : a0.tmps[8]?.getD undef = .pointer (some ⟨g8, 0, none⟩) := by rw [ha0]; rfl
        have k10 : a0.tmps[10]?.getD undef = .int .i64 S := by rw [ha0]; rfl
        refine wp_region_vals (by kernel_rfl) wbT (by kernel_rfl) (by kernel_rfl) hl (fun i => undef) (by rw [ha0]; rfl) (Gr v3) (wbV b o n c g8 b6 pr S) (gr_drew _) (wbV.keep _ _ _ _ _ _ _ _) ⟨?_, ?_, ?_, ?_, ?_, ?_, ?_, ?_, ?_, ?_, ?_, ?_, ?_, ?_, ?_, trivial⟩ ?_
        · refine step_plain [] (by kernel_rfl) rfl fun us w' hG hV => ?_
          have o8 := (frame_old2 (us := us) (a := a0) (show (wbT[8]?).join = none from rfl)).trans k8
          generalize frame wbT a0 us = fr at *
          exact val_ok (v := .pointer (some ⟨g8, 37, none⟩)) (w' := w') (by go_simp) hG (Below.refl _ _) rfl
        · refine step_plain [0] (by kernel_rfl) rfl fun us w' hG hV => ?_
          have e0 : us 0 = .pointer (some ⟨g8, 37, none⟩) := hV 0 (by simp)
          have v0 := (frame_at2 (us := us) hl (show (wbT[47]?).join = some 0 from rfl)).trans e0
          have hc := K37.out w' hG
          generalize frame wbT a0 us = fr at *
          exact val_ok (v := .bool true) (w' := w') (by go_simp) hG (Below.refl _ _) rfl
        · refine step_plain [1] (by kernel_rfl) rfl fun us w' hG hV => ?_
          have e1 : us 1 = .bool true := hV 1 (by simp)
          have v1 := (frame_at2 (us := us) hl (show (wbT[48]?).join = some 1 from rfl)).trans e1
          generalize frame wbT a0 us = fr at *
          exact val_ok (v := .bool false) (w' := w') (by go_simp) hG (Below.refl _ _) rfl
        · refine step_plain [2] (by kernel_rfl) rfl fun us w' hG hV => ?_
          have e2 : us 2 = .bool false := hV 2 (by simp)
          have v2 := (frame_at2 (us := us) hl (show (wbT[49]?).join = some 2 from rfl)).trans e2
          generalize frame wbT a0 us = fr at *
          exact val_ok (v := .bool false) (w' := w') (by go_simp) hG (Below.refl _ _) rfl
        · refine step_guard [3] (by kernel_rfl) (j := 3) (t := 50) (b := false) rfl (by simp) rfl hl rfl (fun v w h => h) fun us w' hG hV => ?_
          have o0 := (frame_old2 (us := us) (a := a0) (show (wbT[0]?).join = none from rfl)).trans k0
          generalize frame wbT a0 us = fr at *
          exact val_ok (v := .slice (some ⟨b, o, none⟩) n c) (w' := w') (by go_simp) hG (Below.refl _ _) rfl
        · refine step_guard [3, 4] (by kernel_rfl) (j := 3) (t := 50) (b := false) rfl (by simp) rfl hl rfl (fun v w h => h) fun us w' hG hV => ?_
          have e4 : us 4 = .slice (some ⟨b, o, none⟩) n c := hV 4 (by simp)
          have v4 := (frame_at2 (us := us) hl (show (wbT[51]?).join = some 4 from rfl)).trans e4
          have lz := L6z.out
          generalize frame wbT a0 us = fr at *
          exact val_ok (v := .pointer (some ⟨b, o + 6, none⟩)) (w' := w') (by go_simp) hG (Below.refl _ _) rfl
        · refine step_guard [3, 5] (by kernel_rfl) (j := 3) (t := 50) (b := false) rfl (by simp) rfl hl rfl (fun v w h => h) fun us w' hG hV => ?_
          have e5 : us 5 = .pointer (some ⟨b, o + 6, none⟩) := hV 5 (by simp)
          have v5 := (frame_at2 (us := us) hl (show (wbT[52]?).join = some 5 from rfl)).trans e5
          have hc := C6.out w' hG
          generalize frame wbT a0 us = fr at *
          exact val_ok (v := .int .u8 b6) (w' := w') (by go_simp) hG (Below.refl _ _) rfl
        · refine step_guard [3] (by kernel_rfl) (j := 3) (t := 50) (b := false) rfl (by simp) rfl hl rfl (fun v w h => h) fun us w' hG hV => ?_
          have o8 := (frame_old2 (us := us) (a := a0) (show (wbT[8]?).join = none from rfl)).trans k8
          generalize frame wbT a0 us = fr at *
          exact val_ok (v := .pointer (some ⟨g8, 34, none⟩)) (w' := w') (by go_simp) hG (Below.refl _ _) rfl
        · refine step_guard [3, 7] (by kernel_rfl) (j := 3) (t := 50) (b := false) rfl (by simp) rfl hl rfl (fun v w h => h) fun us w' hG hV => ?_
          have e7 : us 7 = .pointer (some ⟨g8, 34, none⟩) := hV 7 (by simp)
          have v7 := (frame_at2 (us := us) hl (show (wbT[54]?).join = some 7 from rfl)).trans e7
          have hc := K34.out w' hG
          generalize frame wbT a0 us = fr at *
          exact val_ok (v := .int .u8 pr) (w' := w') (by go_simp) hG (Below.refl _ _) rfl
        · refine step_guard [3, 6, 8] (by kernel_rfl) (j := 3) (t := 50) (b := false) rfl (by simp) rfl hl rfl (fun v w h => h) fun us w' hG hV => ?_
          have e6 : us 6 = .int .u8 b6 := hV 6 (by simp)
          have v6 := (frame_at2 (us := us) hl (show (wbT[53]?).join = some 6 from rfl)).trans e6
          have e8 : us 8 = .int .u8 pr := hV 8 (by simp)
          have v8 := (frame_at2 (us := us) hl (show (wbT[55]?).join = some 8 from rfl)).trans e8
          have hq : ¬ b6 = pr := Q6.out
          generalize frame wbT a0 us = fr at *
          exact val_ok (v := .bool true) (w' := w') (by go_simp) hG (Below.refl _ _) rfl
        · refine step_plain [3, 9] (by kernel_rfl) rfl fun us w' hG hV => ?_
          have e3 : us 3 = .bool false := hV 3 (by simp)
          have v3 := (frame_at2 (us := us) hl (show (wbT[50]?).join = some 3 from rfl)).trans e3
          have e9 : us 9 = .bool true := hV 9 (by simp)
          have v9 := (frame_at2 (us := us) hl (show (wbT[56]?).join = some 9 from rfl)).trans e9
          generalize frame wbT a0 us = fr at *
          exact val_ok (v := .bool true) (w' := w') (by go_simp) hG (Below.refl _ _) rfl
        · refine step_plain [10] (by kernel_rfl) rfl fun us w' hG hV => ?_
          have e10 : us 10 = .bool true := hV 10 (by simp)
          have v10 := (frame_at2 (us := us) hl (show (wbT[57]?).join = some 10 from rfl)).trans e10
          generalize frame wbT a0 us = fr at *
          exact val_ok (v := .bool true) (w' := w') (by go_simp) hG (Below.refl _ _) rfl
        · exact step_skip [11] (by kernel_rfl) (j := 11) (t := 58) (b := false) rfl (by simp) rfl hl rfl (fun v w h => h) fun _ => trivial
        · exact step_skip [11] (by kernel_rfl) (j := 11) (t := 58) (b := false) rfl (by simp) rfl hl rfl (fun v w h => h) fun _ => trivial
        · refine step_plain [11] (by kernel_rfl) rfl fun us w' hG hV => ?_
          have e11 : us 11 = .bool true := hV 11 (by simp)
          have v11 := (frame_at2 (us := us) hl (show (wbT[58]?).join = some 11 from rfl)).trans e11
          generalize frame wbT a0 us = fr at *
          exact val_ok (v := .bool true) (w' := w') (by go_simp) hG (Below.refl _ _) rfl
        · intro us v4 hG hV
          have e14 : us 14 = .bool true := hV 14 (by decide)
          subst ha0
          simp only [frame, wbT, fill]
          rw [e14]
          have HG4 := Lib.hid hG
          clear hV hl hG k0 k8 k10 e14
          generalize us 0 = z0 at *
          generalize us 1 = z1 at *
          generalize us 2 = z2 at *
          generalize us 3 = z3 at *
          generalize us 4 = z4 at *
          generalize us 5 = z5 at *
          generalize us 6 = z6 at *
          generalize us 7 = z7 at *
          generalize us 8 = z8 at *
          generalize us 9 = z9 at *
          generalize us 10 = z10 at *
          generalize us 11 = z11 at *
          generalize us 12 = z12 at *
          generalize us 13 = z13 at *
          clear us
          go_wp2_with fail
          go_ret2
          exact wr_err E.out (by decide) (HB2.out.trans (Below.mono HG4.out HB2.out.size))
    subst h66
    obtain ⟨_, _, hrl, hwt⟩ := plain_read EK0.out (by rw [← EB6.out, ← EPR.out])
    rw [hwt] at hwl
    subst hwl
    have Q6 := Lib.hid (show (b6 == b6) = true from beq_self_eq_true _)
    have QS := Lib.hid (show decide ((65535 : Int) < S) = false from decide_eq_false (by have := SBD.out; omega))
    have ESR := Lib.hid (show S = 2 + (ls.length : Int) + ((hdOf bs).rest.length : Int) by rw [HLM.out, ESN.out, hrl, ← EN.out]; omega)
    have E0 := Lib.hid (wrE_4 (x := x) ETB.out M6.out M46.out EK0.out (by rw [← EB6.out, ← EPR.out]) (by have := ESR.out; have := SBD.out; omega))
    clear hrl hwt
    refine with_act fun a0 ha0 => ?_
    have hl : wdT.length = a0.tmps.size := by rw [ha0]; rfl
    have k0 : a0.tmps[0]?.getD undef = .slice (some ⟨b, o, none⟩) n c := by rw [ha0]; rfl
    have k8 : a0.tmps[8]?.getD undef = .pointer (some ⟨g8, 0, none⟩) := by rw [ha0]; rfl
    have k10 : a0.tmps[10]?.getD undef = .int .i64 S := by rw [ha0]; rfl
    refine wp_region_vals (by kernel_rfl) wdT (by kernel_rfl) (by kernel_rfl) hl (fun i => undef) (by rw [ha0]; rfl) (Gr v3) (wdV b o n c g8 b6 b6 S) (gr_drew _) (wdV.keep _ _ _ _ _ _ _ _) ⟨?_, ?_, ?_, ?_, ?_, ?_, ?_, ?_, ?_, ?_, ?_, ?_, ?_, ?_, ?_, trivial⟩ ?_
    · refine step_plain [] (by kernel_rfl) rfl fun us w' hG hV => ?_
      have o8 := (frame_old2 (us := us) (a := a0) (show (wdT[8]?).join = none from rfl)).trans k8
      generalize frame wdT a0 us = fr at *
      exact val_ok (v := .pointer (some ⟨g8, 37, none⟩)) (w' := w') (by go_simp) hG (Below.refl _ _) rfl
    · refine step_plain [0] (by kernel_rfl) rfl fun us w' hG hV => ?_
      have e0 : us 0 = .pointer (some ⟨g8, 37, none⟩) := hV 0 (by simp)
      have v0 := (frame_at2 (us := us) hl (show (wdT[47]?).join = some 0 from rfl)).trans e0
      have hc := K37.out w' hG
      generalize frame wdT a0 us = fr at *
      exact val_ok (v := .bool true) (w' := w') (by go_simp) hG (Below.refl _ _) rfl
    · refine step_plain [1] (by kernel_rfl) rfl fun us w' hG hV => ?_
      have e1 : us 1 = .bool true := hV 1 (by simp)
      have v1 := (frame_at2 (us := us) hl (show (wdT[48]?).join = some 1 from rfl)).trans e1
      generalize frame wdT a0 us = fr at *
      exact val_ok (v := .bool false) (w' := w') (by go_simp) hG (Below.refl _ _) rfl
    · refine step_plain [2] (by kernel_rfl) rfl fun us w' hG hV => ?_
      have e2 : us 2 = .bool false := hV 2 (by simp)
      have v2 := (frame_at2 (us := us) hl (show (wdT[49]?).join = some 2 from rfl)).trans e2
      generalize frame wdT a0 us = fr at *
      exact val_ok (v := .bool false) (w' := w') (by go_simp) hG (Below.refl _ _) rfl
    · refine step_guard [3] (by kernel_rfl) (j := 3) (t := 50) (b := false) rfl (by simp) rfl hl rfl (fun v w h => h) fun us w' hG hV => ?_
      have o0 := (frame_old2 (us := us) (a := a0) (show (wdT[0]?).join = none from rfl)).trans k0
      generalize frame wdT a0 us = fr at *
      exact val_ok (v := .slice (some ⟨b, o, none⟩) n c) (w' := w') (by go_simp) hG (Below.refl _ _) rfl
    · refine step_guard [3, 4] (by kernel_rfl) (j := 3) (t := 50) (b := false) rfl (by simp) rfl hl rfl (fun v w h => h) fun us w' hG hV => ?_
      have e4 : us 4 = .slice (some ⟨b, o, none⟩) n c := hV 4 (by simp)
      have v4 := (frame_at2 (us := us) hl (show (wdT[51]?).join = some 4 from rfl)).trans e4
      have lz := L6z.out
      generalize frame wdT a0 us = fr at *
      exact val_ok (v := .pointer (some ⟨b, o + 6, none⟩)) (w' := w') (by go_simp) hG (Below.refl _ _) rfl
    · refine step_guard [3, 5] (by kernel_rfl) (j := 3) (t := 50) (b := false) rfl (by simp) rfl hl rfl (fun v w h => h) fun us w' hG hV => ?_
      have e5 : us 5 = .pointer (some ⟨b, o + 6, none⟩) := hV 5 (by simp)
      have v5 := (frame_at2 (us := us) hl (show (wdT[52]?).join = some 5 from rfl)).trans e5
      have hc := C6.out w' hG
      generalize frame wdT a0 us = fr at *
      exact val_ok (v := .int .u8 b6) (w' := w') (by go_simp) hG (Below.refl _ _) rfl
    · refine step_guard [3] (by kernel_rfl) (j := 3) (t := 50) (b := false) rfl (by simp) rfl hl rfl (fun v w h => h) fun us w' hG hV => ?_
      have o8 := (frame_old2 (us := us) (a := a0) (show (wdT[8]?).join = none from rfl)).trans k8
      generalize frame wdT a0 us = fr at *
      exact val_ok (v := .pointer (some ⟨g8, 34, none⟩)) (w' := w') (by go_simp) hG (Below.refl _ _) rfl
    · refine step_guard [3, 7] (by kernel_rfl) (j := 3) (t := 50) (b := false) rfl (by simp) rfl hl rfl (fun v w h => h) fun us w' hG hV => ?_
      have e7 : us 7 = .pointer (some ⟨g8, 34, none⟩) := hV 7 (by simp)
      have v7 := (frame_at2 (us := us) hl (show (wdT[54]?).join = some 7 from rfl)).trans e7
      have hc := K34.out w' hG
      generalize frame wdT a0 us = fr at *
      exact val_ok (v := .int .u8 b6) (w' := w') (by go_simp) hG (Below.refl _ _) rfl
    · refine step_guard [3, 6, 8] (by kernel_rfl) (j := 3) (t := 50) (b := false) rfl (by simp) rfl hl rfl (fun v w h => h) fun us w' hG hV => ?_
      have e6 : us 6 = .int .u8 b6 := hV 6 (by simp)
      have v6 := (frame_at2 (us := us) hl (show (wdT[53]?).join = some 6 from rfl)).trans e6
      have e8 : us 8 = .int .u8 b6 := hV 8 (by simp)
      have v8 := (frame_at2 (us := us) hl (show (wdT[55]?).join = some 8 from rfl)).trans e8
      have hq := Q6.out
      generalize frame wdT a0 us = fr at *
      exact val_ok (v := .bool false) (w' := w') (by go_simp) hG (Below.refl _ _) rfl
    · refine step_plain [3, 9] (by kernel_rfl) rfl fun us w' hG hV => ?_
      have e3 : us 3 = .bool false := hV 3 (by simp)
      have v3 := (frame_at2 (us := us) hl (show (wdT[50]?).join = some 3 from rfl)).trans e3
      have e9 : us 9 = .bool false := hV 9 (by simp)
      have v9 := (frame_at2 (us := us) hl (show (wdT[56]?).join = some 9 from rfl)).trans e9
      generalize frame wdT a0 us = fr at *
      exact val_ok (v := .bool false) (w' := w') (by go_simp) hG (Below.refl _ _) rfl
    · refine step_plain [10] (by kernel_rfl) rfl fun us w' hG hV => ?_
      have e10 : us 10 = .bool false := hV 10 (by simp)
      have v10 := (frame_at2 (us := us) hl (show (wdT[57]?).join = some 10 from rfl)).trans e10
      generalize frame wdT a0 us = fr at *
      exact val_ok (v := .bool false) (w' := w') (by go_simp) hG (Below.refl _ _) rfl
    · refine step_guard [11] (by kernel_rfl) (j := 11) (t := 58) (b := false) rfl (by simp) rfl hl rfl (fun v w h => h) fun us w' hG hV => ?_
      have o10 := (frame_old2 (us := us) (a := a0) (show (wdT[10]?).join = none from rfl)).trans k10
      generalize frame wdT a0 us = fr at *
      exact val_ok (v := .int .i64 S) (w' := w') (by go_simp) hG (Below.refl _ _) rfl
    · refine step_guard [11, 12] (by kernel_rfl) (j := 11) (t := 58) (b := false) rfl (by simp) rfl hl rfl (fun v w h => h) fun us w' hG hV => ?_
      have e12 : us 12 = .int .i64 S := hV 12 (by simp)
      have v12 := (frame_at2 (us := us) hl (show (wdT[59]?).join = some 12 from rfl)).trans e12
      have hs := QS.out
      generalize frame wdT a0 us = fr at *
      exact val_ok (v := .bool false) (w' := w') (by go_simp) hG (Below.refl _ _) rfl
    · refine step_plain [11, 13] (by kernel_rfl) rfl fun us w' hG hV => ?_
      have e11 : us 11 = .bool false := hV 11 (by simp)
      have v11 := (frame_at2 (us := us) hl (show (wdT[58]?).join = some 11 from rfl)).trans e11
      have e13 : us 13 = .bool false := hV 13 (by simp)
      have v13 := (frame_at2 (us := us) hl (show (wdT[60]?).join = some 13 from rfl)).trans e13
      generalize frame wdT a0 us = fr at *
      exact val_ok (v := .bool false) (w' := w') (by go_simp) hG (Below.refl _ _) rfl
    · intro us v4 hG hV
      have e14 : us 14 = .bool false := hV 14 (by decide)
      subst ha0
      simp only [frame, wdT, fill]
      rw [e14]
      have HG4 := Lib.hid hG
      clear hV hl hG k0 k8 k10 e14
      generalize us 0 = z0 at *
      generalize us 1 = z1 at *
      generalize us 2 = z2 at *
      generalize us 3 = z3 at *
      generalize us 4 = z4 at *
      generalize us 5 = z5 at *
      generalize us 6 = z6 at *
      generalize us 7 = z7 at *
      generalize us 8 = z8 at *
      generalize us 9 = z9 at *
      generalize us 10 = z10 at *
      generalize us 11 = z11 at *
      generalize us 12 = z12 at *
      generalize us 13 = z13 at *
      clear us
      have HB4 := Lib.hid (HB2.out.trans (Below.mono HG4.out HB2.out.size))
      have sc4 : ∀ w', (Instr.slice 26 (.slice (some ⟨b, o, none⟩) n c) none (some (.int .i64 4)) none).run Try.prog w' = .ok (.slice (some ⟨b, o, none⟩) 4 c) w' := fun w' => by
        have h1 : (4 : Int) ≤ (c : Int) := by have := LN40.out; have := HC.out; omega
        go_simp
      have ws : IntKind.u64.wrap S = S := IntWalk.u64_in _ (by have := SBD.out; omega)
      obtain ⟨Wm, hWm⟩ : ∃ W, W = v4.alloc (.cells #[.int .u64 S] 50) := ⟨_, rfl⟩
      have Bm : Below v4.heap.size v4 Wm := by rw [hWm]; exact alloc_below _ _
      have sm : Wm.heap.size = v4.heap.size + 1 := by rw [hWm]; exact alloc_size _ _
      have HBm := Lib.hid (HB4.out.trans (Bm.mono HB4.out.size))
      have N2 : Nums .u64 Wm Wm.heap.size (some ⟨v4.heap.size, 0, none⟩) 1 [S] := by rw [hWm]; exact row_nums .u64 (xs := [S]) (heap_alloc_new v4 _) rfl 1 rfl
      obtain ⟨T1, hT1⟩ : ∃ T, T = bs.take 4 ++ nb2 S := ⟨_, rfl⟩
      have ET1 := Lib.hid hT1
      have LT1 := Lib.hid (show T1.length = 6 by rw [hT1, List.length_append, List.length_take]; have := H40.out; show min 4 _ + 2 = 6; omega)
      have PU := Lib.hid (rput_key (w := Wm) (A := some ⟨b, o, none⟩) (n := 4) (c := c) (P := some ⟨v4.heap.size, 0, none⟩) (m := 1) (c2 := 1) (bs := bs.take 4) (ns := [S]) 2 2 6 T1 rfl (by decide)
        ⟨(HN.out Wm HBm.out).upto (show 4 ≤ n by have := LN40.out; omega), fun y hy => HY.out y (List.mem_of_mem_take hy), (by have := LN40.out; have := HC.out; omega), HM.out⟩ N2 (by decide) (by decide) (by rw [hT1]; exact put2 SBD.out.1 SBD.out.2) LT1.out)
      clear K34 K37 Q6 QS HG4 HB2 R2 C6 N2 hT1
      go_upto_region 12 with (first
        | (rw [← hWm]; go_at_call 26; (refine PU.out.mono ?_); rintro e w5 ⟨A5, c5, rfl, O5, K5, B5⟩
           have HO := Lib.hid O5
           have BW5 := Lib.hid (HBm.out.trans (B5.mono HBm.out.size))
           have HB5 := Lib.hid (show Wm.heap.size ≤ w5.heap.size from B5.size)
           clear O5 K5 B5))
      clear sc4 ws PU
      obtain ⟨B, hB⟩ : ∃ B, B = Wm.heap.size := ⟨_, rfl⟩
      rw [← hB] at HO HB5
      have LWB := Lib.hid (show w.heap.size ≤ B by rw [hB]; exact HBm.out.size)
      clear hB hWm Bm sm HBm HB4
      have KW := Lib.hid (fun w' (h : Below B w5 w' ∧ B ≤ w'.heap.size) => (show Below w.heap.size w w' from BW5.out.trans (h.1.mono LWB.out)))
      obtain ⟨c33, hc33⟩ : ∃ k, k = c - 7 := ⟨_, rfl⟩
      have SC7 := Lib.hid (cut_at b o n c 7 40 33 c33 7 40 rfl rfl (by decide) (by have := LN40.out; have := HC.out; omega) (by have := LN40.out; have := HC.out; omega) rfl hc33.symm)
      obtain ⟨M33, hM⟩ : ∃ M, M = (bs.drop 7).take 33 := ⟨_, rfl⟩
      have EM33 := Lib.hid hM
      have P7 := Lib.hid (fun w' (h : Below B w5 w' ∧ B ≤ w'.heap.size) => (show Nums .u8 w' w'.heap.size (some ⟨b, o + 7, none⟩) 33 M33 by rw [hM]; exact nums_at (HN.out w' (KW.out w' h)) 7 33 (by have := LN40.out; omega)))
      have LM33 := Lib.hid (show M33.length = 33 by rw [hM, List.length_take, List.length_drop]; have := H40.out; omega)
      obtain ⟨H1, hH1⟩ : ∃ H, H = T1 ++ [x] := ⟨_, rfl⟩
      have EH1 := Lib.hid hH1.symm
      have LH1 := Lib.hid (show H1.length = 7 by rw [hH1, List.length_append, LT1.out]; rfl)
      obtain ⟨H2, hH2⟩ : ∃ H, H = H1 ++ M33 := ⟨_, rfl⟩
      have EH2 := Lib.hid hH2.symm
      have LH2 := Lib.hid (show H2.length = 40 by rw [hH2, List.length_append, LH1.out, LM33.out])
      obtain ⟨q8, hq8⟩ : ∃ z : Int, z = ((m / 8 : Nat) : Int) := ⟨_, rfl⟩
      obtain ⟨X0, hX0⟩ : ∃ H, H = H2 ++ [b6, q8] := ⟨_, rfl⟩
      have EX0 := Lib.hid hX0.symm
      have LX0 := Lib.hid (show X0.length = 42 by rw [hX0, List.length_append, LH2.out]; rfl)
      have LX1 := Lib.hid (show (X0 ++ ls).length = 42 + m by rw [List.length_append, LX0.out, HLM.out])
      have lm := M46.out
      have lm6 := M6.out
      rw [HLM.out] at lm lm6
      have hm3 := M3.out
      obtain ⟨t1, ht1⟩ : ∃ z : Int, z = (m : Int) + 2 := ⟨_, rfl⟩
      obtain ⟨t2, ht2⟩ : ∃ z : Int, z = t1 / 8 := ⟨_, rfl⟩
      have WQ1 := Lib.hid (show (m : Int) + 2 = t1 from ht1.symm)
      have WQ2 := Lib.hid (show IntKind.i64.wrap t1 = t1 from IntWalk.i64_in _ (by omega))
      have WQ3 := Lib.hid (show t1.tdiv 8 = t2 by rw [Int.tdiv_eq_ediv_of_nonneg (by omega), ht2])
      have WQ4 := Lib.hid (show IntKind.i64.wrap t2 = t2 from IntWalk.i64_in _ (by omega))
      have WQ5 := Lib.hid (show t2 - 1 = q8 by omega)
      have WQ6 := Lib.hid (show IntKind.i64.wrap q8 = q8 ∧ IntKind.u8.wrap q8 = q8 from ⟨IntWalk.i64_in _ (by omega), IntWalk.u8_in _ (by omega)⟩)
      obtain ⟨A9, hA9⟩ : ∃ A9, A9 = (if c = 40 then some (⟨b, o, none⟩ : Addr) else (some (⟨b, o, none⟩ : Addr)).map (·.add 40)) := ⟨_, rfl⟩
      obtain ⟨n9, hn9⟩ : ∃ k, k = n - 40 := ⟨_, rfl⟩
      obtain ⟨c9, hc9⟩ : ∃ k, k = c - 40 := ⟨_, rfl⟩
      have SC9 := Lib.hid (cut_tz (some ⟨b, o, none⟩) n c 40 n9 c9 40 rfl LN40.out HC.out hn9.symm hc9.symm A9 hA9)
      obtain ⟨T9, hT9⟩ : ∃ T, T = bs.drop 40 := ⟨_, rfl⟩
      have P9 := Lib.hid (fun w' (h : Below B w5 w' ∧ B ≤ w'.heap.size) => (show Nums .u8 w' w'.heap.size A9 n9 T9 by rw [hA9, hn9, hT9]; exact (HN.out w' (KW.out w' h)).cut LN40.out HC.out))
      have PL := Lib.hid (fun w' (h : Below B w5 w' ∧ B ≤ w'.heap.size) => HLS.out w' (KW.out w' h))
      have L9 := Lib.hid (show n9 ≤ 3000 by have := H3.out; omega)
      obtain ⟨NN, hNN⟩ : ∃ N, N = 42 + m + n9 := ⟨_, rfl⟩
      have ENN := Lib.hid hNN
      obtain ⟨X, hX⟩ : ∃ X, X = X0 ++ ls ++ T9 := ⟨_, rfl⟩
      have EXX := Lib.hid hX.symm
      have EWX := Lib.hid (show wrX bs x ls = X by
        unfold wrX
        rw [if_pos E0.out]
        unfold wrL
        rw [← ESR.out, hX, hX0, hH2, hH1, ET1.out, EM33.out, ← EPR.out, HLM.out, hT9, hq8]
        simp only [List.append_assoc])
      clear hc33 hM hH1 hH2 hq8 hX0 lm lm6 hm3 ht1 ht2 hA9 hn9 hc9 hT9 hNN hX
      refine with_act fun a0 ha0 => ?_
      have hl : wkT.length = a0.tmps.size := by rw [ha0]; rfl
      have k0 : a0.tmps[0]?.getD undef = .slice (some ⟨b, o, none⟩) n c := by rw [ha0]; rfl
      have k1 : a0.tmps[1]?.getD undef = .int .u8 x := by rw [ha0]; rfl
      have k11 : a0.tmps[11]?.getD undef = .slice A5 6 c5 := by rw [ha0]; rfl
      refine wp_region_che (by kernel_rfl) wkT (by kernel_rfl) (by kernel_rfl) hl (fun i => if i = 7 then a0.tmps[11]?.getD undef else undef) (by rw [ha0]; rfl) (0) (Below B) [2, 3, 6, 7] (by kernel_rfl) (by decide) (by decide) (fun w' => Below B w5 w' ∧ B ≤ w'.heap.size) (wkV b o n c c33 B x A5 c5) (wkR B (.slice A5 6 c5) x T1 H1 H2) (Nat.zero_le _) ⟨(Below.refl _ _).drew.mono HB5.out, HB5.out⟩ ⟨by rw [ha0]; rfl, HB5.out, HO.out.keep fun _ _ _ => rfl⟩ (fun w1 w2 hb hd h => by rcases hd with hd | hd; exact ⟨h.1.trans (hd.mono h.2), Nat.le_trans h.2 hd.size⟩; exact ⟨h.1.trans hd, Nat.le_trans h.2 hd.size⟩) (fun i v w w' _ hd h => wkV.keep _ _ _ _ _ _ _ _ _ i v w w' hd h) (fun k us us' w w' h _ hb hR => wkR.keep _ _ _ _ _ _ k us us' w w' h hb hR) ⟨?_, ?_, ?_, ?_, ?_, ?_, ?_, ?_, trivial⟩ ?_
      · refine stepE_early 0 1 (.inl rfl) (.inr ⟨_, _, rfl, rfl, by kernel_rfl⟩) [] (by kernel_rfl) (by decide) (by decide) rfl fun us w' k hB hG hV hk hR => ?_
        have hq : us 7 = .slice A5 6 c5 := by
          obtain ⟨h1, h2⟩ := hk
          match k, h1, h2, hR with
          | 0, _, _, hR => exact hR.1
          | 1, _, _, hR => exact hR.1
        have o11 := (frame_at2 (us := us) hl (show (wkT[11]?).join = some 7 from rfl)).trans hq
        generalize frame wkT a0 us = fr at *
        exact val_C (v := .slice A5 6 c5) (w' := w') (by go_simp) (Below.refl _ _) rfl
      · refine stepE_val [] (by kernel_rfl) (by decide) (by decide) rfl fun us w' hB hG hV => ?_
        have o1 := (frame_old2 (us := us) (a := a0) (show (wkT[1]?).join = none from rfl)).trans k1
        generalize frame wkT a0 us = fr at *
        exact val_C (v := .int .u8 x) (w' := w') (by go_simp) (Below.refl _ _) rfl
      · refine stepE_chain 0 rfl (by decide) [1] (by kernel_rfl) (by decide) rfl fun us w' hB hG hV hR => ?_
        have e1 : us 1 = .int .u8 x := hV 1 (by simp)
        have v1 := (frame_at2 (us := us) hl (show (wkT[69]?).join = some 1 from rfl)).trans e1
        generalize frame wkT a0 us = fr at *
        obtain ⟨h7, hz, HO⟩ : us 7 = .slice A5 6 c5 ∧ B ≤ w'.heap.size ∧ Own .u8 5 w' B (.slice A5 6 c5) T1 := hR
        exact val_J (R := fun v w'' => (Below B w' w'' ∧ Below 0 w' w'') ∧ wkR B (.slice A5 6 c5) x T1 H1 H2 1 (upd us 2 v) w'') (v := .slice (some ⟨w'.heap.size, 0, none⟩) 1 1) (w' := w'.alloc (.cells #[.int .u8 x] 5)) (by go_simp) ⟨belowB ((alloc_below w' _).mono hz), by rw [upd_other _ _ (by decide)]; exact h7, by rw [alloc_size]; omega, HO.alloc _, w'.heap.size, upd_same _ _ _, heap_alloc_new w' _⟩
      · refine stepE_chain 1 rfl (by decide) [0] (by kernel_rfl) (by decide) rfl fun us w' hB hG hV hR => ?_
        have e0 : us 0 = .slice A5 6 c5 := hV 0 (by simp)
        have v0 := (frame_at2 (us := us) hl (show (wkT[68]?).join = some 0 from rfl)).trans e0
        obtain ⟨_, hz, HO, q, e2, hq⟩ : us 7 = .slice A5 6 c5 ∧ B ≤ w'.heap.size ∧ Own .u8 5 w' B (.slice A5 6 c5) T1 ∧ ∃ q, us 2 = .slice (some ⟨q, 0, none⟩) 1 1 ∧ w'.heap[q]? = some (.cells #[.int .u8 x] 5 (0, 0)) := hR
        have v2 := (frame_at2 (us := us) hl (show (wkT[70]?).join = some 2 from rfl)).trans e2
        generalize frame wkT a0 us = fr at *
        exact append_Jo (R := fun v w'' => (Below B w' w'' ∧ Below 0 w' w'') ∧ wkR B (.slice A5 6 c5) x T1 H1 H2 2 (upd us 3 v) w'') (.tmp 68) (.tmp 70) 26 rfl 5 i0 _ 1 Try.underlying26 T1'.out T2.out T3.out T4.out rfl B _ T1 (eval_tmp v0) HO w'.heap.size _ 1 1 [x] (eval_tmp v2) (row_nums .u8 hq rfl 1 rfl) (by rw [LT1.out]; unfold maxLen; decide) (by rw [LT1.out]; decide) hz 7 (by rw [LT1.out]) fun A' c' w'' _ _ O' B' => ⟨belowB B', Nat.le_trans hz B'.size, by rw [upd_same]; exact EH1.out ▸ O'⟩
      · refine stepE_val [] (by kernel_rfl) (by decide) (by decide) rfl fun us w' hB hG hV => ?_
        have o0 := (frame_old2 (us := us) (a := a0) (show (wkT[0]?).join = none from rfl)).trans k0
        generalize frame wkT a0 us = fr at *
        exact val_C (v := .slice (some ⟨b, o, none⟩) n c) (w' := w') (by go_simp) (Below.refl _ _) rfl
      · refine stepE_val [4] (by kernel_rfl) (by decide) (by decide) rfl fun us w' hB hG hV => ?_
        have e4 : us 4 = .slice (some ⟨b, o, none⟩) n c := hV 4 (by simp)
        have v4 := (frame_at2 (us := us) hl (show (wkT[72]?).join = some 4 from rfl)).trans e4
        have hsc := SC7.out w'
        generalize frame wkT a0 us = fr at *
        exact val_C (v := .slice (some ⟨b, o + 7, none⟩) 33 c33) (w' := w') (by go_simp) (Below.refl _ _) rfl
      · refine stepE_chain 2 rfl (by decide) [5] (by kernel_rfl) (by decide) rfl fun us w' hB hG hV hR => ?_
        have e5 : us 5 = .slice (some ⟨b, o + 7, none⟩) 33 c33 := hV 5 (by simp)
        have v5 := (frame_at2 (us := us) hl (show (wkT[73]?).join = some 5 from rfl)).trans e5
        have vc := frame_at2 (us := us) hl (show (wkT[71]?).join = some 3 from rfl)
        generalize frame wkT a0 us = fr at *
        exact append_Jo (R := fun v w'' => (Below B w' w'' ∧ Below 0 w' w'') ∧ wkR B (.slice A5 6 c5) x T1 H1 H2 3 (upd us 6 v) w'') (.tmp 71) (.tmp 73) 26 rfl 5 i0 _ 1 Try.underlying26 T1'.out T2.out T3.out T4.out rfl B _ H1 (eval_tmp vc) hR.2 w'.heap.size _ 33 c33 M33 (eval_tmp v5) (P7.out w' hG) (by rw [LH1.out]; unfold maxLen; decide) (by rw [LH1.out]; decide) hR.1 40 (by rw [LH1.out]) fun A' c' w'' _ _ O' B' => ⟨belowB B', Nat.le_trans hR.1 B'.size, by rw [upd_same]; exact EH2.out ▸ O'⟩
      · refine stepE_chain 3 rfl (by decide) [] (by kernel_rfl) (by decide) rfl fun us w' hB hG hV hR => ?_
        have vc := frame_at2 (us := us) hl (show (wkT[74]?).join = some 6 from rfl)
        generalize frame wkT a0 us = fr at *
        exact val_J (R := fun v w'' => (Below B w' w'' ∧ Below 0 w' w'') ∧ wkR B (.slice A5 6 c5) x T1 H1 H2 4 (upd us 7 v) w'') (v := us 6) (w' := w') (by go_simp) ⟨belowB (Below.refl _ _), hR.1, by rw [upd_same]; exact hR.2⟩
      · intro us w6 hB2 hG hV hR
        obtain ⟨hz6, hO⟩ : B ≤ w6.heap.size ∧ Own .u8 5 w6 B (us 7) H2 := hR
        have HO6 := Lib.hid hO
        have HZ6 := Lib.hid hz6
        have HG6 := Lib.hid hG
        subst ha0
        simp only [frame, wkT, fill]
        clear hV hG hl k0 k1 k11 hO HO hB2 hz6
        generalize us 0 = x0 at *
        generalize us 1 = x1 at *
        generalize us 2 = x2 at *
        generalize us 3 = x3 at *
        generalize us 4 = x4 at *
        generalize us 5 = x5 at *
        generalize us 6 = x6 at *
        generalize us 7 = vs at *
        clear us
        obtain ⟨Wl, hWl⟩ : ∃ W, W = w6.alloc (.cells #[.int .u8 b6, .int .u8 q8] 5) := ⟨_, rfl⟩
        have BWl := Lib.hid (show Below w6.heap.size w6 Wl by rw [hWl]; exact alloc_below _ _)
        have SWl := Lib.hid (show Wl.heap.size = w6.heap.size + 1 by rw [hWl]; exact alloc_size _ _)
        have OWl := Lib.hid (show Own .u8 5 Wl B vs H2 from HO6.out.below BWl.out)
        have NWl := Lib.hid (show Nums .u8 Wl Wl.heap.size (some ⟨w6.heap.size, 0, none⟩) 2 [b6, q8] by rw [hWl]; exact row_nums .u8 (xs := [b6, q8]) (heap_alloc_new w6 _) rfl 2 rfl)
        have ZWl := Lib.hid (show B ≤ Wl.heap.size by rw [SWl.out]; have := HZ6.out; omega)
        have GWl := Lib.hid (show Below B w5 Wl from HG6.out.1.trans (BWl.out.mono HZ6.out))
        have cb6 := C6W.out w6 (KW.out w6 HG6.out)
        have lz := L6z.out
        have wq1 := WQ1.out
        have wq2 := WQ2.out
        have wq3 := WQ3.out
        have wq4 := WQ4.out
        have wq5 := WQ5.out
        have wq6 := WQ6.out
        go_upto_region 14 with (first
          | (rw [← hWl]; at_builtin; (refine wpList_app _ rfl (.tmp 75) (.tmp 85) _ rfl 5 i0 _ 1 Try.underlying26 T1'.out T2.out T3.out T4.out rfl B _ H2 rfl OWl.out Wl.heap.size _ 2 2 [b6, q8] rfl NWl.out (by rw [LH2.out]; unfold maxLen; decide) (by rw [LH2.out]; decide) ZWl.out ?_)
             intro vv w7 O7 hg7
             have HO7 := Lib.hid (show Own .u8 5 w7 B vv X0 by rw [← EX0.out]; exact O7)
             have B7 := (show Below B Wl w7 from (Below.refl _ _).grown hg7 ZWl.out fun g hg => (OWl.out.blk g hg).1)
             have HG7 := Lib.hid (show Below B w5 w7 ∧ B ≤ w7.heap.size from ⟨GWl.out.trans B7, Nat.le_trans ZWl.out B7.size⟩)
             clear O7 hg7 B7))
        clear cb6 lz wq1 wq2 wq3 wq4 wq5 wq6 hWl BWl SWl OWl NWl ZWl GWl HO6 HZ6 HG6
        refine with_act fun a0 ha0 => ?_
        have hl : wgT.length = a0.tmps.size := by rw [ha0]; rfl
        have k0 : a0.tmps[0]?.getD undef = .slice (some ⟨b, o, none⟩) n c := by rw [ha0]; rfl
        have k2 : a0.tmps[2]?.getD undef = .slice A2 m c2 := by rw [ha0]; rfl
        have k11 : a0.tmps[11]?.getD undef = vv := by rw [ha0]; rfl
        refine wp_region_che (by kernel_rfl) wgT (by kernel_rfl) (by kernel_rfl) hl (fun i => if i = 6 then .slice none 0 0 else if i = 7 then .int .i64 0 else undef) (by rw [ha0]; rfl) (0) (Below B) [2, 5, 6] (by kernel_rfl) (by decide) (by decide) (fun w' => Below B w5 w' ∧ B ≤ w'.heap.size) (wgV b o n c B vv A2 m c2 A9 n9 c9) (rfR B vv X0 (X0 ++ ls) X NN) (Nat.zero_le _) ⟨HG7.out.1.trans (Below.refl _ _).drew, HG7.out.2⟩ ⟨HG7.out.2, HO7.out.keep fun _ _ _ => rfl⟩ (fun w1 w2 hb hd h => by rcases hd with hd | hd; exact ⟨h.1.trans (hd.mono h.2), Nat.le_trans h.2 hd.size⟩; exact ⟨h.1.trans hd, Nat.le_trans h.2 hd.size⟩) (fun i v w w' _ hd h => wgV.keep _ _ _ _ _ _ _ _ _ _ _ _ i v w w' hd h) (fun k us us' w w' h _ hb hR => rfR.keep _ _ _ _ _ _ k us us' w w' h hb hR) ⟨?_, ?_, ?_, ?_, ?_, ?_, ?_, ?_, trivial⟩ ?_
        · refine stepE_val [] (by kernel_rfl) (by decide) (by decide) rfl fun us w' hB hG hV => ?_
          have o11 := (frame_old2 (us := us) (a := a0) (show (wgT[11]?).join = none from rfl)).trans k11
          generalize frame wgT a0 us = fr at *
          exact val_C (v := vv) (w' := w') (by go_simp) (Below.refl _ _) rfl
        · refine stepE_val [] (by kernel_rfl) (by decide) (by decide) rfl fun us w' hB hG hV => ?_
          have o2 := (frame_old2 (us := us) (a := a0) (show (wgT[2]?).join = none from rfl)).trans k2
          generalize frame wgT a0 us = fr at *
          exact val_C (v := .slice A2 m c2) (w' := w') (by go_simp) (Below.refl _ _) rfl
        · refine stepE_chain 0 rfl (by decide) [0, 1] (by kernel_rfl) (by decide) rfl fun us w' hB hG hV hR => ?_
          have e0 : us 0 = vv := hV 0 (by simp)
          have v0 := (frame_at2 (us := us) hl (show (wgT[87]?).join = some 0 from rfl)).trans e0
          have e1 : us 1 = .slice A2 m c2 := hV 1 (by simp)
          have v1 := (frame_at2 (us := us) hl (show (wgT[88]?).join = some 1 from rfl)).trans e1
          generalize frame wgT a0 us = fr at *
          exact append_Jo (R := fun v w'' => (Below B w' w'' ∧ Below 0 w' w'') ∧ rfR B vv X0 (X0 ++ ls) X NN 1 (upd us 2 v) w'') (.tmp 87) (.tmp 88) 26 rfl 5 i0 _ 1 Try.underlying26 T1'.out T2.out T3.out T4.out rfl B _ X0 (eval_tmp v0) hR.2 w'.heap.size _ m c2 ls (eval_tmp v1) (PL.out w' hG) (by rw [LX0.out]; unfold maxLen; have := M3.out; omega) (by rw [LX0.out]; have := M3.out; omega) hR.1 (42 + m) (by rw [LX0.out]) fun A' c' w'' _ _ O' B' => ⟨belowB B', Nat.le_trans hR.1 B'.size, by rw [upd_same]; exact O'⟩
        · refine stepE_val [] (by kernel_rfl) (by decide) (by decide) rfl fun us w' hB hG hV => ?_
          have o0 := (frame_old2 (us := us) (a := a0) (show (wgT[0]?).join = none from rfl)).trans k0
          generalize frame wgT a0 us = fr at *
          exact val_C (v := .slice (some ⟨b, o, none⟩) n c) (w' := w') (by go_simp) (Below.refl _ _) rfl
        · refine stepE_val [3] (by kernel_rfl) (by decide) (by decide) rfl fun us w' hB hG hV => ?_
          have e3 : us 3 = .slice (some ⟨b, o, none⟩) n c := hV 3 (by simp)
          have v3 := (frame_at2 (us := us) hl (show (wgT[90]?).join = some 3 from rfl)).trans e3
          have hsc := SC9.out w'
          generalize frame wgT a0 us = fr at *
          exact val_C (v := .slice A9 n9 c9) (w' := w') (by go_simp) (Below.refl _ _) rfl
        · refine stepE_chain 1 rfl (by decide) [4] (by kernel_rfl) (by decide) rfl fun us w' hB hG hV hR => ?_
          have e4 : us 4 = .slice A9 n9 c9 := hV 4 (by simp)
          have v4 := (frame_at2 (us := us) hl (show (wgT[91]?).join = some 4 from rfl)).trans e4
          have vc := frame_at2 (us := us) hl (show (wgT[89]?).join = some 2 from rfl)
          generalize frame wgT a0 us = fr at *
          exact append_Jo (R := fun v w'' => (Below B w' w'' ∧ Below 0 w' w'') ∧ rfR B vv X0 (X0 ++ ls) X NN 2 (upd us 5 v) w'') (.tmp 89) (.tmp 91) 26 rfl 5 i0 _ 1 Try.underlying26 T1'.out T2.out T3.out T4.out rfl B _ (X0 ++ ls) (eval_tmp vc) hR.2 w'.heap.size _ n9 c9 T9 (eval_tmp v4) (P9.out w' hG) (by rw [LX1.out]; unfold maxLen; have := M3.out; have := L9.out; omega) (by rw [LX1.out]; have := M3.out; have := L9.out; omega) hR.1 NN (by rw [LX1.out, ENN.out]) fun A' c' w'' _ _ O' B' => ⟨belowB B', Nat.le_trans hR.1 B'.size, by rw [upd_same]; exact EXX.out ▸ O', A', c', upd_same _ _ _⟩
        · refine stepE_chain 2 rfl (by decide) [] (by kernel_rfl) (by decide) rfl fun us w' hB hG hV hR => ?_
          have vc := frame_at2 (us := us) hl (show (wgT[92]?).join = some 5 from rfl)
          generalize frame wgT a0 us = fr at *
          exact val_J (R := fun v w'' => (Below B w' w'' ∧ Below 0 w' w'') ∧ rfR B vv X0 (X0 ++ ls) X NN 3 (upd us 6 v) w'') (v := us 5) (w' := w') (by go_simp) ⟨belowB (Below.refl _ _), hR.1, by rw [upd_same]; exact hR.2.1, by rw [upd_same]; exact hR.2.2⟩
        · refine stepE_val [] (by kernel_rfl) (by decide) (by decide) rfl fun us w' hB hG hV => ?_
          generalize frame wgT a0 us = fr at *
          exact val_C (v := .int .i64 0) (w' := w') (by go_simp) (Below.refl _ _) rfl
        · intro us w8 hB2 hG hV hR
          have e7 : us 7 = .int .i64 0 := hV 7 (by decide) (by decide)
          obtain ⟨_, hO, AX, cX, e6⟩ : B ≤ w8.heap.size ∧ Own .u8 5 w8 B (us 6) X ∧ ∃ A c, us 6 = .slice A NN c := hR
          rw [e6] at hO
          have HO8 := Lib.hid hO
          have HG8 := Lib.hid hG.1
          subst ha0
          simp only [frame, wgT, fill]
          rw [e6, e7]
          clear hV hG hl k0 k2 k11 e6 e7 hO
          go_wp2_with fail
          go_ret2
          exact ⟨AX, NN, cX, by rw [E0.out]; rfl, by rw [EWX.out]; exact HO8.out.less LWB.out, BW5.out.trans (HG8.out.mono LWB.out)⟩)
end Go.Proofs.Ytbhcpbihbecphaa.sxC

/-
  The walk of IpsixWraps.
-/
namespace Go.Proofs.Ytbhcpbihbecphaa.sxC
open Go.ChangeShapes Go.WideShapes Go.ChangeAt Go.RowKit
open Go.Proofs.Ytbhcpbihbecphaa.memC Go.Proofs.Ytbhcpbihbecphaa.genC Go.Proofs.Ytbhcpbihbecphaa.butC Go.Proofs.Ytbhcpbihbecphaa.freeC Go.Proofs.Ytbhcpbihbecphaa.adC Go.Proofs.Ytbhcpbihbecphaa.pkC
set_option linter.unusedVariables false
set_option maxRecDepth 100000 in
set_option maxHeartbeats 4000000 in
theorem wraps_walk (A : Option Addr) (n c : Nat) (bs : List Int) (x : Int) (A2 : Option Addr) (m c2 : Nat) (ls : List Int) (w : World) (hb : Nums .u8 w w.heap.size A n bs) (hy : ∀ x ∈ bs, Byte x) (hx : Byte x) (hls : Nums .u8 w w.heap.size A2 m ls) (hyl : ∀ x ∈ ls, Byte x)
    (hn : n ≤ 9223372036854775807) (hm : m ≤ 9223372036854775807) (hnc : n ≤ c) (hcm : c ≤ 9223372036854775807) :
    Calls Try.prog 5 #[.slice A n c, .int .u8 x, .slice A2 m c2] w (Ret w (.bool true)) := by
  have HB_w := Lib.hid (Below.refl w.heap.size w)
  by_cases h1 : 3000 < n
  · have q1 : (3000 : Int) < (n : Int) := by omega
    clear hb hy hx hls hyl h1
    go_enter Try.func5, Try.ntmps5
    go_wp2_with (first
      | (go_at_call 10; (refine (alive_any _).mono ?_); rintro e w9 ⟨rfl, BB⟩
         have HB_w9 := Lib.hid (HB_w.out.trans (BB.mono HB_w.out.size))
         clear BB))
    go_ret
    exact ⟨rfl, HB_w9.out⟩
  have q1 : decide ((3000 : Int) < (n : Int)) = false := decide_eq_false (by omega)
  by_cases h2 : 3000 < m
  · have q2 : (3000 : Int) < (m : Int) := by omega
    clear hb hy hx hls hyl h1 h2
    go_enter Try.func5, Try.ntmps5
    go_wp2_with (first
      | (go_at_call 10; (refine (alive_any _).mono ?_); rintro e w9 ⟨rfl, BB⟩
         have HB_w9 := Lib.hid (HB_w.out.trans (BB.mono HB_w.out.size))
         clear BB))
    go_ret
    exact ⟨rfl, HB_w9.out⟩
  have q2 : decide ((3000 : Int) < (m : Int)) = false := decide_eq_false (by omega)
  have WC := Lib.hid (cwrap_any A n c bs x A2 m c2 ls w hb hy hx hls hyl (by omega) (by omega) hnc hcm)
  have WD := Lib.hid (fun w' (h : Below w.heap.size w w') => rwrap_any A n c bs x A2 m c2 ls w' ((hb.below h).more h.size) hy hx ((hls.below h).more h.size) hyl (by omega) (by omega) hnc hcm)
  unfold WrR at WC WD
  generalize wrX bs x ls = ys at *
  generalize wrE bs x ls = eh at *
  obtain ⟨SB, hSB⟩ : ∃ S, S = strOfNums ys := ⟨_, rfl⟩
  have CV := Lib.hid (fun w' (A1 : Option Addr) (n1 c1 : Nat) (h : Nums .u8 w' w'.heap.size A1 n1 ys) => (show (convert 26 9 (.slice A1 n1 c1)).run Try.prog w' = .ok (.string SB) w' by rw [hSB]; exact run_string h c1 26 5 9 Try.underlying26 Try.underlying5 Try.underlying9))
  clear hb hy hx hls hyl h1 h2 hSB
  go_enter Try.func5, Try.ntmps5
  go_upto_region 4 with (first
    | (go_at_call 20; (refine WC.out.mono ?_); rintro e W2 ⟨A5, n5, c5, rfl, O1, BB⟩
       have NB_W2 := Lib.hid O1.nums
       have HB_W2 := Lib.hid (HB_w.out.trans (BB.mono HB_w.out.size))
       clear BB O1))
  go_upto_region 5 with (first
    | (go_at_call 21; (refine (WD.out _ HB_W2.out).mono ?_); rintro e W3 ⟨A6, n6, c6, rfl, O1, BB⟩
       have HB_W3 := Lib.hid (HB_W2.out.trans (BB.mono HB_W2.out.size))
       have hcx := CV.out W3 A5 n5 c5 ((NB_W2.out.below BB).more BB.size)
       have hcy := CV.out W3 A6 n6 c6 O1.nums
       clear BB O1))
  clear NB_W2 HB_W2
  go_wp2_with (first
    | (with_reducible refine atC.at_bin .eql 9 ?_; refine wpList_runG (by kernel_rfl) _ (seq_self (T := 9) (S := SB) rfl (by kernel_rfl) (by kernel_rfl)) ?_)
    | (go_at_call 10; (refine (alive_any _).mono ?_); rintro e w9 ⟨rfl, BB⟩
       have HB_w9 := Lib.hid (HB_W3.out.trans (BB.mono HB_W3.out.size))
       clear BB))
  go_ret
  exact ⟨rfl, HB_w9.out⟩
end Go.Proofs.Ytbhcpbihbecphaa.sxC
