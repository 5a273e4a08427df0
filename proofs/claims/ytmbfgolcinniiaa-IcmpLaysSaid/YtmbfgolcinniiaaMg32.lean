/-
  5 texts of a proof, joined.
-/
import Derived.Test.YtmbfgolcinniiaaMg31
import Derived.Test.YtmbfgolcinniiaaMg26
import Derived.Test.YtmbfgolcinniiaaMg24
import Derived.Test.YtmbfgolcinniiaaMg18
import Derived.Laws.CopyRow
import Derived.Test.YtmbfgolcinniiaaMg25
import Derived.Test.YtmbfgolcinniiaaMg14
import Derived.Test.YtmbfgolcinniiaaMg16
import Derived.Test.YtmbfgolcinniiaaMg23
import Derived.Test.YtmbfgolcinniiaaMg10
import Derived.Laws.CopyOwn

/-
  The bytes of a message: the program's.
-/
namespace Go.Proofs.Ytmbfgolcinniiaa.icC
open Go.ChangeShapes Go.WideShapes Go.ChangeAt Go.RowKit
open Go.Proofs.Ytmbfgolcinniiaa.memC Go.Proofs.Ytmbfgolcinniiaa.genC Go.Proofs.Ytmbfgolcinniiaa.butC Go.Proofs.Ytmbfgolcinniiaa.freeC Go.Proofs.Ytmbfgolcinniiaa.adC
open Go.Proofs.Ytmbfgolcinniiaa.octC (numL getZ putL)
open Go.Proofs.Ytmbfgolcinniiaa.pkC (OwnE copy_J row_nums)
set_option linter.unusedVariables false
/-- the last four bytes of a head, as a number -/
def wdM (m : Ms) : Int := m.id * 65536 + m.sq + m.mt
theorem wd_head {m : Ms} {n : Nat} {six : Bool} (hm : m.Ok) (h : mayM m n six = true) : putL [tyM m.ki.toNat six, coM m six, 0, 0] 4 [wdM m] = headM m six 0 := by
  obtain ⟨h1, h5, hk, -, -⟩ := mayM_parts h
  have hid := hm.id; have hsq := hm.sq; have hmt := hm.mt
  unfold U16 at hid hsq
  unfold U32 at hmt
  unfold headM putL wdM
  simp only [List.flatMap_cons, List.flatMap_nil, List.append_nil]
  rw [numL2I, numL2I, numL4I, numL4I]
  by_cases h4 : m.ki = 4
  · have e1 : m.id = 0 := by rw [← hk]; unfold keptM; rw [if_neg (by omega), if_neg (by omega), if_pos h4]
    have e2 : m.sq = 0 := by rw [← hk]; unfold keptM; rw [if_neg (by omega), if_neg (by omega), if_pos h4]
    rw [if_pos h4, e1, e2]
    simp
  · have e3 : m.mt = 0 := by
      rw [← hk]; unfold keptM
      by_cases h12 : m.ki = 1 ∨ m.ki = 2
      · rw [if_pos h12]
      · rw [if_neg h12]
        by_cases h35 : m.ki = 3 ∨ m.ki = 5
        · rw [if_pos h35]
        · omega
    rw [if_neg h4, e3]
    have a1 : (m.id * 65536 + m.sq + 0) / 16777216 % 256 = m.id / 256 % 256 := by omega
    have a2 : (m.id * 65536 + m.sq + 0) / 65536 % 256 = m.id % 256 := by omega
    have a3 : (m.id * 65536 + m.sq + 0) / 256 % 256 = m.sq / 256 % 256 := by omega
    have a4 : (m.id * 65536 + m.sq + 0) % 256 = m.sq % 256 := by omega
    rw [a1, a2, a3, a4]
    simp
theorem wd_or {m : Ms} {n : Nat} {six : Bool} (hm : m.Ok) (h : mayM m n six = true) : bits .or .u64 (m.id * 65536) m.sq = m.id * 65536 + m.sq ∧ bits .or .u64 (m.id * 65536 + m.sq) m.mt = wdM m ∧ 0 ≤ wdM m ∧ wdM m ≤ 4294967295 := by
  obtain ⟨h1, h5, hk, -, -⟩ := mayM_parts h
  have hid := hm.id; have hsq := hm.sq; have hmt := hm.mt
  unfold U16 at hid hsq
  unfold U32 at hmt
  have o1 : bits .or .u64 (m.id * 65536) m.sq = m.id * 65536 + m.sq := by
    rw [Go.u64_or _ _ (by omega) (by omega) (by omega) (by omega)]
    have e : (m.id * 65536).toNat = m.id.toNat <<< 16 := by rw [Nat.shiftLeft_eq]; omega
    rw [e, ← Nat.shiftLeft_add_eq_or_of_lt (by omega), Nat.shiftLeft_eq]; omega
  unfold wdM
  refine ⟨o1, ?_⟩
  by_cases h4 : m.ki = 4
  · have e1 : m.id = 0 := by rw [← hk]; unfold keptM; rw [if_neg (by omega), if_neg (by omega), if_pos h4]
    have e2 : m.sq = 0 := by rw [← hk]; unfold keptM; rw [if_neg (by omega), if_neg (by omega), if_pos h4]
    refine ⟨?_, by omega, by omega⟩
    rw [e1, e2, Go.u64_or _ _ (by omega) (by omega) (by omega) (by omega)]
    have e : ((0 : Int) * 65536 + 0).toNat = 0 := rfl
    rw [e, Nat.zero_or]; omega
  · have e3 : m.mt = 0 := by
      rw [← hk]; unfold keptM
      by_cases h12 : m.ki = 1 ∨ m.ki = 2
      · rw [if_pos h12]
      · rw [if_neg h12]
        by_cases h35 : m.ki = 3 ∨ m.ki = 5
        · rw [if_pos h35]
        · omega
    refine ⟨?_, by omega, by omega⟩
    rw [e3, Go.u64_or _ _ (by omega) (by omega) (by omega) (by omega)]
    have e : (0 : Int).toNat = 0 := rfl
    rw [e, Nat.or_zero]; omega
theorem bytesM_ck (m : Ms) (six : Bool) (xs : List Int) (ck : Int) : (bytesM m six xs 0).take 2 ++ [ck / 256, ck % 256] ++ (bytesM m six xs 0).drop (2 + 2) = bytesM m six xs ck := by
  unfold bytesM headM
  simp
theorem sum_psL (s1 s2 : Bool) (b1 b2 bs : List Int) : chkM.fo (chkM.wsum (psL s1 s2 b1 b2 (bs.length : Nat)) + chkM.wsum bs) = sumM s1 s2 b1 b2 bs := by
  unfold sumM psL
  cases s1
  · rw [if_neg (by decide), if_neg (by decide), show chkM.wsum [] = 0 from rfl, Int.zero_add]
  · rw [if_pos rfl, if_pos rfl]
theorem cut_tailI (A : Option Addr) (n c f : Nat) (h1 : f ≤ n) (h2 : n ≤ c) (w : World) :
    (Instr.slice 24 (.slice A n c) (some (.int .i64 (f : Int))) none none).run Try.prog w = .ok (.slice (if c = f then A else A.map (·.add f)) (n - f) (c - f)) w := pkC.cut_tail A n c f h1 h2 w
/-- the bytes of the message, and with their check sum -/
def lzR (base g n c : Nat) (X0 X1 : List Int) : Nat → (Nat → Value) → World → Prop
  | 0, _, w => Own .u8 5 w base (.slice (some ⟨g, 0, none⟩) n c) X0
  | 1, _, w => Own .u8 5 w base (.slice (some ⟨g, 0, none⟩) n c) X1
  | _, _, _ => True
theorem lzR.keep (base g n c : Nat) (X0 X1 : List Int) (k : Nat) (us us' : Nat → Value) (w w' : World) (hb : Below w.heap.size w w') (hR : lzR base g n c X0 X1 k us w) : lzR base g n c X0 X1 k us' w' := by
  unfold lzR at hR ⊢
  split at hR
  · exact hR.below hb
  · exact hR.below hb
  · trivial
def lyV (g0 : Nat) (CP : Array Value) (ki ty cc wd : Int) (six : Bool) (B : Nat) (T1 : List Int) : Nat → Value → World → Prop
  | 0, v, _ => v = .pointer (some ⟨g0, 0, none⟩)
  | 1, v, _ => v = .int .i64 ki
  | 2, v, _ => v = .bool six
  | 3, v, _ => v = .int .u8 ty
  | 4, v, _ => v = .agg CP
  | 5, v, _ => v = .bool six
  | 6, v, _ => v = .int .u8 cc
  | 7, v, w => ∃ q, v = .slice (some ⟨q, 0, none⟩) 4 4 ∧ w.heap[q]? = some (.cells #[.int .u8 ty, .int .u8 cc, .int .u8 0, .int .u8 0] 5 (0, 0))
  | 8, v, _ => v = .int .u64 wd
  | 9, v, w => ∃ q, v = .slice (some ⟨q, 0, none⟩) 1 1 ∧ w.heap[q]? = some (.cells #[.int .u64 wd] 60 (0, 0))
  | 10, v, w => ∃ A' c', v = .slice A' 8 c' ∧ Own .u8 5 w B (.slice A' 8 c') T1
  | 11, v, w => ∃ A' c', v = .slice A' 8 c' ∧ Own .u8 5 w B (.slice A' 8 c') T1
  | _, _, _ => True
theorem lyV.keep (g0 : Nat) (CP : Array Value) (ki ty cc wd : Int) (six : Bool) (B : Nat) (T1 : List Int) (i : Nat) (v : Value) (w w' : World) (hb : Below w.heap.size w w') (h : lyV g0 CP ki ty cc wd six B T1 i v w) : lyV g0 CP ki ty cc wd six B T1 i v w' := by
  by_cases e7 : i = 7
  · subst e7
    obtain ⟨q, h1, h2⟩ := h
    exact ⟨q, h1, by rw [hb.block _ (lt_of_rowI h2)]; exact h2⟩
  by_cases e9 : i = 9
  · subst e9
    obtain ⟨q, h1, h2⟩ := h
    exact ⟨q, h1, by rw [hb.block _ (lt_of_rowI h2)]; exact h2⟩
  by_cases e10 : i = 10
  · subst e10
    obtain ⟨A', c', h1, h2⟩ := h
    exact ⟨A', c', h1, h2.below hb⟩
  by_cases e11 : i = 11
  · subst e11
    obtain ⟨A', c', h1, h2⟩ := h
    exact ⟨A', c', h1, h2.below hb⟩
  unfold lyV at h ⊢
  split at h <;> first | exact h | exact absurd rfl (by assumption)
def lyT : List (Option Nat) := [none, none, none, none, none, none, none, none, none, none, some 11, none, none, none, none, none, none, none, none, none, none, none, none, none, none, none, none, none, none, none, none, none, none, none, none, none, none, none, some 0, some 1, some 2, some 3, some 4, some 5, some 6, some 7, some 8, some 9, some 10, none, none, none, none, none, none, none, none, none, none, none, none, none, none, none, none, none, none, none, none]
def lzV (g n c n10 c10 : Nat) (ck : Int) : Nat → Value → World → Prop
  | 0, v, _ => v = .slice (some ⟨g, 0, none⟩) n c
  | 1, v, _ => v = .slice (some ⟨g, 2, none⟩) n10 c10
  | 2, v, _ => v = .int .u16 ck
  | 3, v, _ => v = .int .u64 ck
  | 4, v, w => ∃ q, v = .slice (some ⟨q, 0, none⟩) 1 1 ∧ q ≠ g ∧ w.heap[q]? = some (.cells #[.int .u64 ck] 60 (0, 0))
  | 5, v, w => ∃ A c, v = .slice A 2 c ∧ Own .u8 5 w (g + 1) (.slice A 2 c) [ck / 256, ck % 256]
  | _, _, _ => True
theorem lzV.keep (g n c n10 c10 : Nat) (ck : Int) (i : Nat) (v : Value) (w w' : World) (hd : Below w.heap.size w w' ∨ OnlyAt g w w') (h : lzV g n c n10 c10 ck i v w) : lzV g n c n10 c10 ck i v w' := by
  by_cases e4 : i = 4
  · subst e4
    obtain ⟨q, h1, h2, h3⟩ := h
    exact ⟨q, h1, h2, keep_row hd h2 h3⟩
  by_cases e5 : i = 5
  · subst e5
    obtain ⟨A, c', h1, h2⟩ := h
    refine ⟨A, c', h1, h2.keep fun k g1 g2 => ?_⟩
    rcases hd with hd | hd
    · exact hd.block k g2
    · exact hd.2 k (by omega)
  unfold lzV at h ⊢
  split at h <;> first | exact h | exact absurd rfl (by assumption)
def lzT : List (Option Nat) := [none, none, none, none, none, none, none, none, none, none, none, none, none, none, none, none, none, none, none, none, none, none, none, none, none, none, none, none, none, none, none, none, none, none, none, none, none, none, none, none, none, none, none, none, none, none, none, none, none, none, none, none, none, none, none, none, none, none, none, none, none, some 0, some 1, some 2, some 3, some 4, some 5, some 6, none]
set_option maxRecDepth 100000 in
set_option maxHeartbeats 8000000 in
theorem clay_any (C1 C2 : Array Value) (s1 s2 : Bool) (b1 b2 : List Int) (m : Ms) (A : Option Addr) (n c : Nat) (xs : List Int) (w : World) (h1 : chkC.AddrC C1 s1 b1) (h2 : chkC.AddrC C2 s2 b2) (hm : m.Ok)
    (hx : Nums .u8 w w.heap.size A n xs) (hy : ∀ x ∈ xs, Byte x) :
    Calls Try.prog 10 #[.agg (msV m A n c), .agg C1, .agg C2] w (OwnE w (laysL s1 s2 b1 b2 m xs) (laysE m n s1)) := by
  have hxl := hx.len
  unfold laysL laysE
  rw [hxl]
  obtain ⟨W0, hW0⟩ : ∃ W, W = w.alloc (.cells (msV m A n c) 36) := ⟨_, rfl⟩
  obtain ⟨W1, hW1⟩ : ∃ W, W = W0.alloc (.cells C1 29) := ⟨_, rfl⟩
  obtain ⟨W, hW⟩ : ∃ W, W = W1.alloc (.cells C2 29) := ⟨_, rfl⟩
  have z0 : W0.heap.size = w.heap.size + 1 := by rw [hW0, alloc_size]
  have z1 : W1.heap.size = w.heap.size + 2 := by rw [hW1, alloc_size, z0]
  have z2 : W.heap.size = w.heap.size + 3 := by rw [hW, alloc_size, z1]
  have B0 : Below w.heap.size w W0 := by rw [hW0]; exact alloc_below _ _
  have B1 : Below W0.heap.size W0 W1 := by rw [hW1]; exact alloc_below _ _
  have B2 : Below W1.heap.size W1 W := by rw [hW]; exact alloc_below _ _
  have HB := Lib.hid (show Below w.heap.size w W from (B0.trans (B1.mono (by omega))).trans (B2.mono (by omega)))
  have r3 : W.heap[w.heap.size]? = some (.cells (msV m A n c) 36 (0, 0)) := by rw [B2.block _ (by omega), B1.block _ (by omega), hW0]; exact heap_alloc_new _ _
  have r1 : W.heap[w.heap.size + 1]? = some (.cells C1 29 (0, 0)) := by rw [B2.block _ (by omega), hW1, ← z0]; exact heap_alloc_new _ _
  have r2 : W.heap[w.heap.size + 2]? = some (.cells C2 29 (0, 0)) := by rw [hW, ← z1]; exact heap_alloc_new _ _
  have OC := msC m A n c
  have IP := Lib.hid OC.cinfo
  have KR := Lib.hid (fun (w' : World) (h : Below W.heap.size W w') => (show w'.heap[w.heap.size]? = some (.cells (msV m A n c) 36 (0, 0)) by rw [h.block _ (by omega)]; exact r3))
  have KX := fun (k : Nat) (v : Value) (h : (msV m A n c)[k]? = some v) (w' : World) (hb : Below W.heap.size W w') => pkC.PkC.cell (KR.out w' hb) h
  have K0 := Lib.hid (KX 0 _ OC.ki)
  have K1 := Lib.hid (KX 1 _ OC.co)
  have K2 := Lib.hid (KX 2 _ OC.id)
  have K3 := Lib.hid (KX 3 _ OC.sq)
  have K4 := Lib.hid (KX 4 _ OC.mt)
  have K5 := Lib.hid (KX 5 _ OC.da)
  have p13 := pkC.PkC.cell r1 h1.six
  have KG1 := Lib.hid (fun (w' : World) (h : Below W.heap.size W w') => (show w'.heap[w.heap.size + 1]? = some (.cells C1 29 (0, 0)) by rw [h.block _ (by omega)]; exact r1))
  have KG2 := Lib.hid (fun (w' : World) (h : Below W.heap.size W w') => (show w'.heap[w.heap.size + 2]? = some (.cells C2 29 (0, 0)) by rw [h.block _ (by omega)]; exact r2))
  have IC1 := Lib.hid (show (Try.prog.info? 29).map (·.size) = some C1.size by rw [h1.size]; exact chkC.addr_info)
  have IC2 := Lib.hid (show (Try.prog.info? 29).map (·.size) = some C2.size by rw [h2.size]; exact chkC.addr_info)
  have MC := Lib.hid (cmay_any m A n c s1 xs W ((hx.below HB.out).more HB.out.size) hy)
  have XN := Lib.hid (fun (w' : World) (h : Below W.heap.size W w') => (show Nums .u8 w' w'.heap.size A n xs from (hx.below (HB.out.trans (h.mono HB.out.size))).more (HB.out.trans (h.mono HB.out.size)).size))
  have HWW := Lib.hid (Below.refl W.heap.size W)
  have SW := Lib.hid (show w.heap.size ≤ W.heap.size by omega)
  have TK := Lib.hid (ctaken_any m.ki m.co s1)
  obtain ⟨tk, htk⟩ : ∃ t, tkM m.ki m.co s1 = t := ⟨_, rfl⟩
  have hly : layM m n s1 = (mayM m n s1 && !tk) := by rw [← htk]; rfl
  rw [htk] at TK
  obtain ⟨my, hmy⟩ : ∃ my, mayM m n s1 = my := ⟨_, rfl⟩
  rw [hmy] at MC hly
  have hno : (my = false) ∨ (my = true ∧ tk = true) ∨ (my = true ∧ tk = false) := by cases my <;> cases tk <;> simp
  rcases hno with rfl | ⟨rfl, rfl⟩ | ⟨rfl, rfl⟩
  rotate_left 2
  rotate_left
  iterate 2
    · have hly' : layM m n s1 = false := by rw [hly]; rfl
      rw [hly', if_neg (by decide), if_neg (by decide)]
      generalize msV m A n c = CP at *
      clear h1 h2 hm hx hy hxl OC KX r1 r2 r3 hmy B0 B1 B2 z2 htk hly hly' K2 K3 K4 K5
      generalize m.ki = ki at *
      generalize m.co = co at *
      go_enter Try.func10, Try.ntmps10
      try simp only [List.append_eq, List.cons_append, List.nil_append]
      go_upto_region 1 with fail
      rw [← hW0, ← hW1, ← hW]
      try rw [z0]
      try rw [z1]
      clear hW0 hW1 hW z0 z1
      go_wp2_with (first
        | go_skip
        | (refine wpList_load_row rfl 36 (.tmp 3) rfl (w.heap.size) rfl _ _ _ _ (KR.out _ HWW.out) Try.underlying36 rfl IP.out ?_)
        | (go_at_call 13; (refine MC.out.mono ?_); rintro e w2 ⟨rfl, BB⟩
           have HW2 := Lib.hid BB
           have k0 := K0.out w2 BB
           have k1 := K1.out w2 BB
           clear BB)
        | (go_at_call 24; (refine (TK.out w2).mono ?_); rintro e w3 ⟨rfl, hw3⟩; obtain rfl := hw3.symm))
      go_ret2
      exact ⟨none, 0, 0, rfl, Own.nil _ _, HB.out.trans (HW2.out.mono HB.out.size)⟩
  have hly' : layM m n s1 = true := by rw [hly]; rfl
  rw [hly', if_pos rfl, if_pos rfl]
  obtain ⟨q1, q5, -, qn, -⟩ := mayM_parts hmy
  obtain ⟨k, hk⟩ : ∃ k : Nat, m.ki = (k : Int) := ⟨m.ki.toNat, by omega⟩
  have TY := Lib.hid (fun w' => (show Calls Try.prog 26 #[.int .i64 m.ki, .bool s1] w' (Ret w' (.int .u8 (tyM m.ki.toNat s1))) by
    rw [hk, Int.toNat_natCast]
    exact (ctype_any k s1 w' (by omega)).mono fun e w'' h => ⟨h.1, by rw [h.2]; exact Below.refl _ _⟩))
  have CO := Lib.hid (fun w' => ccode_any m A n c s1 w')
  have hwh := wd_head hm hmy
  obtain ⟨hor1, hor2, hw0, hw1⟩ := wd_or hm hmy
  have hid := hm.id; have hsq := hm.sq; have hmt := hm.mt
  unfold U16 at hid hsq
  unfold U32 at hmt
  have W2 := Lib.hid (show IntKind.u64.wrap m.id = m.id from IntWalk.u64_in _ (by omega))
  have W3 := Lib.hid (show IntKind.u64.wrap m.sq = m.sq from IntWalk.u64_in _ (by omega))
  have W4 := Lib.hid (show IntKind.u64.wrap m.mt = m.mt from IntWalk.u64_in _ (by omega))
  have WS := Lib.hid (show IntKind.u64.wrap (m.id * 65536) = m.id * 65536 from IntWalk.u64_in _ (by omega))
  have WT := Lib.hid (show m.id * 65536 % 18446744073709551616 = m.id * 65536 by omega)
  have hT1l := headM_len m s1 0
  have hYT := headM_byte hm (six := s1) (ck := 0) (by decide) (by decide)
  have YB := Lib.hid (show ∀ x ∈ [tyM m.ki.toNat s1, coM m s1, 0, 0], Byte x by
    intro x hx2
    rw [← hwh] at hYT
    exact hYT x (List.mem_append_left _ hx2))
  have hXl := bytesM_len m s1 xs 0
  have cb := ckM_bd s1 s2 b1 b2 m xs
  have EXX := bytesM_ck m s1 xs (ckM s1 s2 b1 b2 m xs)
  have hX0 : bytesM m s1 xs 0 = headM m s1 0 ++ xs := rfl
  have hck : ckM s1 s2 b1 b2 m xs = 65535 - chkM.fo (chkM.wsum (psL s1 s2 b1 b2 ((bytesM m s1 xs 0).length : Nat)) + chkM.wsum (bytesM m s1 xs 0)) := by rw [sum_psL]; rfl
  have hXy := bytesM_byte hm hy (six := s1) (ck := 0) (by decide) (by decide)
  rw [hXl, hxl] at hck
  rw [hxl] at hXl
  have PS := Lib.hid (fun (w' : World) => cpse_any C1 C2 s1 s2 b1 b2 (((8 + n : Nat)) : Int) w' h1 h2 (by omega) (by omega))
  have LB0 := Lib.hid (show n ≤ 1400 from qn)
  have ET := Lib.hid hwh
  have L8 := Lib.hid hT1l
  obtain ⟨i0, hi0, hz0, hz1, hz2⟩ := info_parts chkC.byte_info
  have I1 := Lib.hid hi0; have I2 := Lib.hid hz0; have I3 := Lib.hid hz1; have I4 := Lib.hid hz2
  have OR1 := Lib.hid hor1
  have OR2 := Lib.hid hor2
  have HX0 := Lib.hid hX0
  have HXL := Lib.hid hXl
  have HXY := Lib.hid hXy
  have HCK := Lib.hid hck
  have EX := Lib.hid EXX
  have CB := Lib.hid cb
  clear h1 h2 hm hx hy hxl OC KX r1 r2 r3 hmy B0 B1 B2 z2 htk hly hly' hwh hor1 hor2 hw0 hw1 hid hsq hmt hT1l hYT hXl cb EXX hX0 hck hXy hk q1 q5 qn hi0 hz0 hz1 hz2
  generalize headM m s1 0 = T1 at *
  generalize bytesM m s1 xs 0 = X0 at *
  generalize ckM s1 s2 b1 b2 m xs = ck at *
  generalize bytesM m s1 xs ck = X1 at *
  generalize wdM m = wd at *
  generalize tyM m.ki.toNat s1 = ty at *
  generalize coM m s1 = cc at *
  generalize psL s1 s2 b1 b2 ((8 + n : Nat) : Int) = PL at *
  generalize msV m A n c = CP at *
  generalize m.ki = ki at *
  generalize m.co = co at *
  generalize m.id = id at *
  generalize m.sq = sq at *
  generalize m.mt = mt at *
  go_enter Try.func10, Try.ntmps10
  try simp only [List.append_eq, List.cons_append, List.nil_append]
  go_upto_region 1 with fail
  rw [← hW0, ← hW1, ← hW]
  try rw [z0]
  try rw [z1]
  clear hW0 hW1 hW z0 z1
  go_upto_region 4 with (first
    | go_skip
    | (refine wpList_load_row rfl 36 (.tmp 3) rfl (w.heap.size) rfl _ _ _ _ (KR.out _ HWW.out) Try.underlying36 rfl IP.out ?_)
    | (go_at_call 13; (refine MC.out.mono ?_); rintro e Wr ⟨rfl, BB⟩
       have HW2 := Lib.hid BB
       have k0 := K0.out Wr BB
       have k1 := K1.out Wr BB
       clear BB)
    | (go_at_call 24; (refine (TK.out Wr).mono ?_); rintro e w3 ⟨rfl, hw3⟩; obtain rfl := hw3.symm))
  have c2 := K2.out Wr HW2.out
  have c3 := K3.out Wr HW2.out
  have c4 := K4.out Wr HW2.out
  have ww2 := W2.out
  have ww3 := W3.out
  have ww4 := W4.out
  have wws := WS.out
  have wwt := WT.out
  have oo1 := OR1.out
  have oo2 := OR2.out
  clear k0 k1 p13 MC TK
  go_upto_region 5 with fail
  clear c2 c3 c4 ww2 ww3 ww4 wws wwt oo1 oo2
  obtain ⟨B, hB⟩ : ∃ B, B = Wr.heap.size := ⟨_, rfl⟩
  have LB := Lib.hid (Nat.le_of_eq hB)
  have GT := Lib.hid (fun w' (h : Gr Wr w') => (show Below W.heap.size W w' from HW2.out.trans (Below.mono h HW2.out.size)))
  have KRW := KR
  have KR := Lib.hid (fun w' (h : Gr Wr w') => KR.out w' (GT.out w' h))
  have K0 := Lib.hid (fun w' (h : Gr Wr w') => K0.out w' (GT.out w' h))
  refine with_act fun a0 ha0 => ?_
  have hl : lyT.length = a0.tmps.size := by rw [ha0]; rfl
  have k3 : a0.tmps[3]?.getD undef = .pointer (some ⟨w.heap.size, 0, none⟩) := by rw [ha0]; rfl
  have k8 : a0.tmps[8]?.getD undef = .bool s1 := by rw [ha0]; rfl
  have k9 : a0.tmps[9]?.getD undef = .int .u64 wd := by rw [ha0]; rfl
  refine wp_region_vals (by kernel_rfl) lyT (by kernel_rfl) (by kernel_rfl) hl (fun i => undef) (by rw [ha0]; rfl) (Gr Wr) (lyV w.heap.size CP ki ty cc wd s1 B T1) (show Gr _ _ from (Below.refl _ _).drew) (lyV.keep _ _ _ _ _ _ _ _ _) ⟨?_, ?_, ?_, ?_, ?_, ?_, ?_, ?_, ?_, ?_, ?_, ?_, trivial⟩ ?_
  · refine step_plain [] (by kernel_rfl) rfl fun us w' hG hV => ?_
    have o3 := (frame_old2 (us := us) (a := a0) (show (lyT[3]?).join = none from rfl)).trans k3
    generalize frame lyT a0 us = fr at *
    exact val_ok (v := .pointer (some ⟨w.heap.size, 0, none⟩)) (w' := w') (by go_simp) hG (Below.refl _ _) rfl
  · refine step_plain [0] (by kernel_rfl) rfl fun us w' hG hV => ?_
    have e0 : us 0 = .pointer (some ⟨w.heap.size, 0, none⟩) := hV 0 (by simp)
    have v0 := (frame_at2 (us := us) hl (show (lyT[38]?).join = some 0 from rfl)).trans e0
    have hc := K0.out w' hG
    generalize frame lyT a0 us = fr at *
    exact val_ok (v := .int .i64 ki) (w' := w') (by go_simp) hG (Below.refl _ _) rfl
  · refine step_plain [] (by kernel_rfl) rfl fun us w' hG hV => ?_
    have o8 := (frame_old2 (us := us) (a := a0) (show (lyT[8]?).join = none from rfl)).trans k8
    generalize frame lyT a0 us = fr at *
    exact val_ok (v := .bool s1) (w' := w') (by go_simp) hG (Below.refl _ _) rfl
  · refine step_plain [1, 2] (by kernel_rfl) rfl fun us w' hG hV => ?_
    have e1 : us 1 = .int .i64 ki := hV 1 (by simp)
    have v1 := (frame_at2 (us := us) hl (show (lyT[39]?).join = some 1 from rfl)).trans e1
    have e2 : us 2 = .bool s1 := hV 2 (by simp)
    have v2 := (frame_at2 (us := us) hl (show (lyT[40]?).join = some 2 from rfl)).trans e2
    generalize frame lyT a0 us = fr at *
    exact call_ok (f := 26) (args := #[.int .i64 ki, .bool s1]) (by go_simp) ((TY.out w').mono fun e w'' h => ⟨_, h.1, hG.below h.2, h.2, rfl⟩)
  · refine step_plain [] (by kernel_rfl) rfl fun us w' hG hV => ?_
    have o3 := (frame_old2 (us := us) (a := a0) (show (lyT[3]?).join = none from rfl)).trans k3
    have hg1 := (KR.out w' hG)
    generalize frame lyT a0 us = fr at *
    exact load_ok 36 3 rfl (w.heap.size) o3 _ _ (0, 0) _ hg1 Try.underlying36 rfl IP.out hG rfl
  · refine step_plain [] (by kernel_rfl) rfl fun us w' hG hV => ?_
    have o8 := (frame_old2 (us := us) (a := a0) (show (lyT[8]?).join = none from rfl)).trans k8
    generalize frame lyT a0 us = fr at *
    exact val_ok (v := .bool s1) (w' := w') (by go_simp) hG (Below.refl _ _) rfl
  · refine step_plain [4, 5] (by kernel_rfl) rfl fun us w' hG hV => ?_
    have e4 : us 4 = .agg CP := hV 4 (by simp)
    have v4 := (frame_at2 (us := us) hl (show (lyT[42]?).join = some 4 from rfl)).trans e4
    have e5 : us 5 = .bool s1 := hV 5 (by simp)
    have v5 := (frame_at2 (us := us) hl (show (lyT[43]?).join = some 5 from rfl)).trans e5
    generalize frame lyT a0 us = fr at *
    exact call_ok (f := 27) (args := #[.agg CP, .bool s1]) (by go_simp) ((CO.out w').mono fun e w'' h => ⟨_, h.1, hG.below h.2, h.2, rfl⟩)
  · refine step_plain [3, 6] (by kernel_rfl) rfl fun us w' hG hV => ?_
    have e3 : us 3 = .int .u8 ty := hV 3 (by simp)
    have v3 := (frame_at2 (us := us) hl (show (lyT[41]?).join = some 3 from rfl)).trans e3
    have e6 : us 6 = .int .u8 cc := hV 6 (by simp)
    have v6 := (frame_at2 (us := us) hl (show (lyT[44]?).join = some 6 from rfl)).trans e6
    generalize frame lyT a0 us = fr at *
    exact val_ok (v := .slice (some ⟨w'.heap.size, 0, none⟩) 4 4) (w' := w'.alloc (.cells #[.int .u8 ty, .int .u8 cc, .int .u8 0, .int .u8 0] 5)) (by go_simp) (hG.below (alloc_below _ _)) (alloc_below _ _) ⟨_, rfl, heap_alloc_new _ _⟩
  · refine step_plain [] (by kernel_rfl) rfl fun us w' hG hV => ?_
    have o9 := (frame_old2 (us := us) (a := a0) (show (lyT[9]?).join = none from rfl)).trans k9
    generalize frame lyT a0 us = fr at *
    exact val_ok (v := .int .u64 wd) (w' := w') (by go_simp) hG (Below.refl _ _) rfl
  · refine step_plain [8] (by kernel_rfl) rfl fun us w' hG hV => ?_
    have e8 : us 8 = .int .u64 wd := hV 8 (by simp)
    have v8 := (frame_at2 (us := us) hl (show (lyT[46]?).join = some 8 from rfl)).trans e8
    generalize frame lyT a0 us = fr at *
    exact val_ok (v := .slice (some ⟨w'.heap.size, 0, none⟩) 1 1) (w' := w'.alloc (.cells #[.int .u64 wd] 60)) (by go_simp) (hG.below (alloc_below _ _)) (alloc_below _ _) ⟨_, rfl, heap_alloc_new _ _⟩
  · refine step_plain [7, 9] (by kernel_rfl) rfl fun us w' hG hV => ?_
    obtain ⟨q7, e7, r7⟩ := (show ∃ q, us 7 = .slice (some ⟨q, 0, none⟩) 4 4 ∧ w'.heap[q]? = some (.cells #[.int .u8 ty, .int .u8 cc, .int .u8 0, .int .u8 0] 5 (0, 0)) from hV 7 (by simp))
    have v7 := (frame_at2 (us := us) hl (show (lyT[45]?).join = some 7 from rfl)).trans e7
    obtain ⟨q9, e9, r9⟩ := (show ∃ q, us 9 = .slice (some ⟨q, 0, none⟩) 1 1 ∧ w'.heap[q]? = some (.cells #[.int .u64 wd] 60 (0, 0)) from hV 9 (by simp))
    have v9 := (frame_at2 (us := us) hl (show (lyT[47]?).join = some 9 from rfl)).trans e9
    generalize frame lyT a0 us = fr at *
    exact call_ok (f := 25) (args := #[.slice (some ⟨q7, 0, none⟩) 4 4, .int .i64 4, .slice (some ⟨q9, 0, none⟩) 1 1]) (by go_simp) ((kdC.put_key (bs := [ty, cc, 0, 0]) (ns := [wd]) 4 4 8 T1 rfl (by decide) ⟨row_nums .u8 r7 rfl 4 rfl, YB.out, (by decide), (by decide)⟩ (row_nums .u64 r9 rfl 1 rfl) (by decide) (by decide) ET.out L8.out).mono fun e w'' ⟨A', c', h1, h2, h3, h4⟩ => ⟨_, h1, hG.below h4, h4, A', c', rfl, h2.less (Nat.le_trans LB.out (Below.size hG))⟩)
  · refine step_plain [10] (by kernel_rfl) rfl fun us w' hG hV => ?_
    obtain ⟨A10, c10, e10, P10⟩ := (show ∃ A' c', us 10 = .slice A' 8 c' ∧ Own .u8 5 w' B (.slice A' 8 c') T1 from hV 10 (by simp))
    have v10 := (frame_at2 (us := us) hl (show (lyT[48]?).join = some 10 from rfl)).trans e10
    generalize frame lyT a0 us = fr at *
    exact val_ok (v := .slice A10 8 c10) (w' := w') (by go_simp) hG (Below.refl _ _) ⟨A10, c10, rfl, P10⟩
  · intro us w3 hG hV
    obtain ⟨A4, c4, e11, O4⟩ := (show ∃ A' c', us 11 = .slice A' 8 c' ∧ Own .u8 5 w3 B (.slice A' 8 c') T1 from hV 11 (by decide))
    subst ha0
    simp only [frame, lyT, fill]
    rw [e11]
    have HO := Lib.hid O4
    have HG3 := Lib.hid hG
    clear hV hl hG O4 k3 k8 k9 e11
    have KW3 := Lib.hid (GT.out w3 HG3.out)
    have c5 := K5.out w3 KW3.out
    have SB3 := Lib.hid (show B ≤ w3.heap.size by have := LB.out; have := Below.size HG3.out; omega)
    have NX3 := Lib.hid (XN.out w3 KW3.out)
    have NXX := Lib.hid (show Nums .u8 w3 w3.heap.size A n xs from NX3.out)
    go_upto_region 7 with (at_builtin
                           (refine wpList_app _ rfl (.tmp 49) (.tmp 51) _ rfl 5 i0 _ 1 Try.underlying24 I1.out I2.out I3.out I4.out rfl B _ T1 rfl HO.out w3.heap.size _ n c xs rfl NXX.out (by rw [L8.out]; have := LB0.out; unfold maxLen; omega) (by rw [L8.out]; have := LB0.out; omega) SB3.out ?_)
                           intro v4 w4 O hg
                           obtain ⟨AH, cH, ev, g1, g2, NH⟩ := O.form
                           rw [← HX0.out, HXL.out] at ev g1 NH
                           rw [← HX0.out] at O
                           subst ev
                           have HO4 := Lib.hid O
                           have HNH := Lib.hid NH
                           have LC := Lib.hid g1
                           have B34 := Lib.hid (show Below B w3 w4 from Below.grown (Below.refl _ _) hg SB3.out fun q hq => (HO.out.blk q hq).1)
                           clear O hg g1 g2 NH)
    have KW4 := Lib.hid (KW3.out.trans (B34.out.mono (by have := LB.out; have := HW2.out.size; omega)))
    have PXP := Lib.hid (show chkC.PartAt w4 w4.heap.size ⟨AH, 8 + n, cH, X0⟩ from ⟨HNH.out, (show 8 + n ≤ 10000 by have := LB0.out; omega), HXY.out⟩)
    have G1 := Lib.hid (KG1.out w4 KW4.out)
    have G2 := Lib.hid (KG2.out w4 KW4.out)
    have NE := Lib.hid (show ((8 + n : Nat) : Int) = 8 + (n : Int) by omega)
    clear HO HG3 c5 NX3 NXX SB3 KR K0 K1 K2 K3 K4 K5 IP TY CO L8 YB ET
    go_upto_region 8 with (first
      | (refine wpList_load_row rfl 29 (.tmp 4) rfl (w.heap.size + 1) rfl _ _ _ _ G1.out Try.underlying29 rfl IC1.out ?_)
      | (refine wpList_load_row rfl 29 (.tmp 5) rfl (w.heap.size + 2) rfl _ _ _ _ G2.out Try.underlying29 rfl IC2.out ?_)
      | (go_at_call 29; refine (PS.out _).mono ?_; rintro e w5 ⟨A5, n5, c5, rfl, P5, B5⟩
         have HP5 := Lib.hid P5
         have HB5 := Lib.hid B5
         have CK5 := Lib.hid (chkC.check2_on (Below.refl w5.heap.size w5) P5 (PXP.out.below B5 B5.size) HCK.out.symm)
         clear P5 B5)
      | (go_at_call 28; (refine CK5.out.mono ?_); rintro e w6 ⟨rfl, B6⟩
         have HB6 := Lib.hid B6
         clear B6))
    have W46 := Lib.hid (HB5.out.trans (HB6.out.mono HB5.out.size))
    have HO6 := Lib.hid (HO4.out.below W46.out)
    have HNN := Lib.hid (show 8 ≤ 8 + n ∧ 8 + n ≤ 1408 by have := LB0.out; omega)
    have KW6 := Lib.hid (KW4.out.trans (W46.out.mono KW4.out.size))
    clear HO4 HNH PXP G1 G2 NE HP5 CK5 HB5 KW4 KW3 GT KRW HCK PS LB0 I1 I2 I3 I4 B34
    generalize 8 + n = NN at *
    obtain ⟨g, rfl, hg1, hg2⟩ : ∃ g, AH = some ⟨g, 0, none⟩ ∧ B ≤ g ∧ g < w6.heap.size := by
      have O8 := HO6.out
      have h0 := O8.len
      rcases O8.2 with ⟨e1, e2⟩ | ⟨g, cap, cur, e1, e2, -⟩
      · cases e1; have := HNN.out; omega
      · injection e1 with e1 e3 e4
        subst e1
        exact ⟨g, rfl, e2, (O8.blk g rfl).2⟩
    have BG := Lib.hid hg1
    have LG := Lib.hid hg2
    have HO := Lib.hid HO6.out
    have SC := Lib.hid (fun (w' : World) => (show (Instr.slice 24 (.slice (some ⟨g, 0, none⟩) NN cH) (some (.int .i64 2)) none none).run Try.prog w' = .ok (.slice (some ⟨g, 2, none⟩) (NN - 2) (cH - 2)) w' by
      have := cut_tailI (some ⟨g, 0, none⟩) NN cH 2 (by have := HNN.out; omega) LC.out w'
      rw [if_neg (by have := HNN.out; have := LC.out; omega)] at this
      exact this))
    have WK := Lib.hid (show IntKind.u64.wrap ck = ck from IntWalk.u64_in _ (by have := CB.out; omega))
    have NL := Lib.hid (show putL [] 2 [ck] = [ck / 256, ck % 256] by
      unfold putL
      simp only [List.flatMap_cons, List.flatMap_nil, List.append_nil, List.nil_append]
      rw [numL2I]
      have := CB.out
      rw [show ck / 256 % 256 = ck / 256 by omega])
    have LN := Lib.hid (show 4 ≤ NN ∧ NN ≤ cH ∧ X0.length = NN from ⟨by have := HNN.out; omega, LC.out, HXL.out⟩)
    have N10 := Lib.hid (show 2 ≤ NN - 2 by have := HNN.out; omega)
    have HBS := Lib.hid (show w.heap.size ≤ B by have := SW.out; have := HW2.out.size; have := LB.out; omega)
    have HBW := Lib.hid (HB.out.trans (KW6.out.mono SW.out))
    clear HO6 KG1 KG2 IC1 IC2 XN HWW KW6 HB6 W46 hg1 hg2
    refine with_act fun a0 ha0 => ?_
    have hl : lzT.length = a0.tmps.size := by rw [ha0]; rfl
    have k10 : a0.tmps[10]?.getD undef = .slice (some ⟨g, 0, none⟩) NN cH := by rw [ha0]; rfl
    have k11 : a0.tmps[11]?.getD undef = .int .u16 ck := by rw [ha0]; rfl
    refine wp_region_che (by kernel_rfl) lzT (by kernel_rfl) (by kernel_rfl) hl (fun i => undef) (by rw [ha0]; rfl) (g) (OnlyAt g) [6] (by kernel_rfl) (by decide) (by decide) (fun w' => Below B w6 w' ∧ g + 1 ≤ w'.heap.size) (lzV g NN cH (NN - 2) (cH - 2) ck) (lzR B g NN cH X0 X1) (Nat.le_of_lt LG.out) ⟨(Below.refl _ _).drew, LG.out⟩ HO.out (fun w1 w2 hb hd h => ⟨keep_below hd BG.out (Nat.le_trans BG.out (Nat.le_of_lt h.2)) h.1, by rcases hd with hd | hd; exact Nat.le_trans h.2 hd.size; exact Nat.le_trans h.2 hd.1.size⟩) (fun i v w w' _ hd h => lzV.keep _ _ _ _ _ _ i v w w' hd h) (fun k us us' w w' _ _ hb hR => lzR.keep _ _ _ _ _ _ k us us' w w' hb hR) ⟨?_, ?_, ?_, ?_, ?_, ?_, ?_, trivial⟩ ?_
    · refine stepE_val [] (by kernel_rfl) (by decide) (by decide) rfl fun us w' hB hG hV => ?_
      have o10 := (frame_old2 (us := us) (a := a0) (show (lzT[10]?).join = none from rfl)).trans k10
      generalize frame lzT a0 us = fr at *
      exact val_C (v := .slice (some ⟨g, 0, none⟩) NN cH) (w' := w') (by go_simp) (Below.refl _ _) rfl
    · refine stepE_val [0] (by kernel_rfl) (by decide) (by decide) rfl fun us w' hB hG hV => ?_
      have e0 : us 0 = .slice (some ⟨g, 0, none⟩) NN cH := hV 0 (by simp)
      have v0 := (frame_at2 (us := us) hl (show (lzT[61]?).join = some 0 from rfl)).trans e0
      have hsc := SC.out w'
      generalize frame lzT a0 us = fr at *
      exact val_C (v := .slice (some ⟨g, 2, none⟩) (NN - 2) (cH - 2)) (w' := w') (by go_simp) (Below.refl _ _) rfl
    · refine stepE_val [] (by kernel_rfl) (by decide) (by decide) rfl fun us w' hB hG hV => ?_
      have o11 := (frame_old2 (us := us) (a := a0) (show (lzT[11]?).join = none from rfl)).trans k11
      generalize frame lzT a0 us = fr at *
      exact val_C (v := .int .u16 ck) (w' := w') (by go_simp) (Below.refl _ _) rfl
    · refine stepE_val [2] (by kernel_rfl) (by decide) (by decide) rfl fun us w' hB hG hV => ?_
      have e2 : us 2 = .int .u16 ck := hV 2 (by simp)
      have v2 := (frame_at2 (us := us) hl (show (lzT[63]?).join = some 2 from rfl)).trans e2
      have hw := WK.out
      generalize frame lzT a0 us = fr at *
      exact val_C (v := .int .u64 ck) (w' := w') (by go_simp) (Below.refl _ _) rfl
    · refine stepE_val [3] (by kernel_rfl) (by decide) (by decide) rfl fun us w' hB hG hV => ?_
      have e3 : us 3 = .int .u64 ck := hV 3 (by simp)
      have v3 := (frame_at2 (us := us) hl (show (lzT[64]?).join = some 3 from rfl)).trans e3
      generalize frame lzT a0 us = fr at *
      exact val_C (v := .slice (some ⟨w'.heap.size, 0, none⟩) 1 1) (w' := w'.alloc (.cells #[.int .u64 ck] 60)) (by go_simp) (alloc_below _ _) ⟨_, rfl, (Nat.ne_of_gt hG.2), heap_alloc_new _ _⟩
    · refine stepE_val [4] (by kernel_rfl) (by decide) (by decide) rfl fun us w' hB hG hV => ?_
      obtain ⟨q4, e4, n4, r4⟩ := (show ∃ q, us 4 = .slice (some ⟨q, 0, none⟩) 1 1 ∧ q ≠ g ∧ w'.heap[q]? = some (.cells #[.int .u64 ck] 60 (0, 0)) from hV 4 (by simp))
      have v4 := (frame_at2 (us := us) hl (show (lzT[65]?).join = some 4 from rfl)).trans e4
      generalize frame lzT a0 us = fr at *
      exact call_C (f := 25) (args := #[.slice none 0 0, .int .i64 2, .slice (some ⟨q4, 0, none⟩) 1 1]) (by go_simp) ((kdC.put_key (bs := []) (ns := [ck]) 2 2 2 [ck / 256, ck % 256] rfl (by decide) ⟨Nums.none_ 0, (by simp), (by decide), (by decide)⟩ (row_nums .u64 r4 rfl 1 rfl) (by decide) (by decide) NL.out rfl).mono fun e w'' ⟨A', c', h1, h2, h3, h4⟩ => ⟨_, h1, h4, A', c', rfl, h2.less hG.2⟩)
    · refine stepE_chain 0 rfl (by decide) [1, 5] (by kernel_rfl) (by decide) rfl fun us w' hB hG hV hR => ?_
      have e1 : us 1 = .slice (some ⟨g, 2, none⟩) (NN - 2) (cH - 2) := hV 1 (by simp)
      have v1 := (frame_at2 (us := us) hl (show (lzT[62]?).join = some 1 from rfl)).trans e1
      obtain ⟨A5, d5, e5, P5⟩ := (show ∃ A cH, us 5 = .slice A 2 cH ∧ Own .u8 5 w' (g + 1) (.slice A 2 cH) [ck / 256, ck % 256] from hV 5 (by simp))
      have v5 := (frame_at2 (us := us) hl (show (lzT[66]?).join = some 5 from rfl)).trans e5
      generalize frame lzT a0 us = fr at *
      obtain ⟨cur, hc1, hc2, hc3⟩ := (show Own .u8 5 w' B (.slice (some ⟨g, 0, none⟩) NN cH) X0 from hR).copied (by have := LN.out; omega) 2 2 [ck / 256, ck % 256] rfl (by have := LN.out; omega)
      have NP := P5.nums
      obtain ⟨b5, o5, ea5, hb5, hc5⟩ := NP.at_ (by decide)
      subst ea5
      have hcr := run_copy_row (P := Try.prog) w' 24 24 3 5 g 2 (NN - 2) (cH - 2) ⟨b5, o5, none⟩ 2 d5 cur 5 ([ck / 256, ck % 256].map (Value.int .u8)) Try.underlying24 (by kernel_rfl) hc1 (by have := N10.out; show 2 = min 2 (NN - 2); omega) (NP.news rfl) (by have := LN.out; show 2 + 2 ≤ cur.size; omega) (by simp [Value.oneCell'])
      exact copy_J (R := fun v w'' => (OnlyAt g w' w'' ∧ Below g w' w'') ∧ lzR B g NN cH X0 X1 1 (upd us 6 v) w'') 62 66 24 24 rfl _ _ v1 v5 hcr ⟨⟨OnlyAt.setRow _ _ _, (OnlyAt.setRow _ _ _).1⟩, by rw [← EX.out]; exact hc3⟩
    · intro us w2 hB2 hG hV hR
      have HR := Lib.hid (show Own .u8 5 w2 B (.slice (some ⟨g, 0, none⟩) NN cH) X1 from hR)
      have HG := Lib.hid hG.1
      subst ha0
      simp only [frame, lzT, fill]
      clear hV hR hG hl k10 k11
      go_wp2_with fail
      go_ret2
      exact ⟨_, NN, cH, rfl, HR.out.less HBS.out, HBW.out.trans (HG.out.mono HBS.out)⟩
end Go.Proofs.Ytmbfgolcinniiaa.icC

/-
  The kind that a type and a code stand for: the program's.
-/
namespace Go.Proofs.Ytmbfgolcinniiaa.icC
open Go.ChangeShapes Go.WideShapes Go.ChangeAt Go.RowKit
open Go.Proofs.Ytmbfgolcinniiaa.memC Go.Proofs.Ytmbfgolcinniiaa.genC Go.Proofs.Ytmbfgolcinniiaa.butC Go.Proofs.Ytmbfgolcinniiaa.freeC Go.Proofs.Ytmbfgolcinniiaa.adC
set_option linter.unusedVariables false
/-- the first of some kinds that a type and a code stand for, or 0 -/
def kdF (six : Bool) (x0 x1 : Int) : Nat → Nat → Nat
  | 0, _ => 0
  | f + 1, k => if (x0 == tyM k six && !tkM k x1 six) = true then k else kdF six x0 x1 f (k + 1)
def kdM (six : Bool) (x0 x1 : Int) : Nat := kdF six x0 x1 5 1
theorem kdF_le (six : Bool) (x0 x1 : Int) : ∀ f k, k + f ≤ 6 → kdF six x0 x1 f k ≤ 5
  | 0, k, h => by unfold kdF; omega
  | f + 1, k, h => by
    unfold kdF
    split
    · omega
    · exact kdF_le six x0 x1 f (k + 1) (by omega)
theorem kdM_le (six : Bool) (x0 x1 : Int) : kdM six x0 x1 ≤ 5 := kdF_le six x0 x1 5 1 (by decide)
set_option maxHeartbeats 1000000 in
/-- the kinds one behind the other: at most one of them fits -/
theorem loop_kd (six : Bool) (x0 x1 : Int) (n : Nat) (H : Ms) :
    loopM six x0 x1 n 5 1 H = if kdM six x0 x1 = 0 then none else if mayM (keptM { H with ki := (kdM six x0 x1 : Nat) }) n six = true then some (keptM { H with ki := (kdM six x0 x1 : Nat) }) else none := by
  cases six
  · by_cases a1 : x0 = 8
    · subst a1
      simp [loopM, hitM, kdM, kdF, tyM, tkM]
    · by_cases a2 : x0 = 0
      · subst a2
        simp [loopM, hitM, kdM, kdF, tyM, tkM]
      · by_cases a3 : x0 = 3
        · subst a3
          by_cases b : x1 = 4
          · subst b
            simp [loopM, hitM, kdM, kdF, tyM, tkM]
          · have b' : (x1 == 4) = false := beq_eq_false_iff_ne.2 b
            simp [loopM, hitM, kdM, kdF, tyM, tkM, b, b']
        · by_cases a4 : x0 = 11
          · subst a4
            simp [loopM, hitM, kdM, kdF, tyM, tkM]
          · simp [loopM, hitM, kdM, kdF, tyM, tkM, a1, a2, a3, a4, Ne.symm a1, Ne.symm a2, Ne.symm a3, Ne.symm a4]
  · by_cases a1 : x0 = 128
    · subst a1
      simp [loopM, hitM, kdM, kdF, tyM, tkM]
    · by_cases a2 : x0 = 129
      · subst a2
        simp [loopM, hitM, kdM, kdF, tyM, tkM]
      · by_cases a3 : x0 = 1
        · subst a3
          simp [loopM, hitM, kdM, kdF, tyM, tkM]
        · by_cases a4 : x0 = 2
          · subst a4
            simp [loopM, hitM, kdM, kdF, tyM, tkM]
          · by_cases a5 : x0 = 3
            · subst a5
              simp [loopM, hitM, kdM, kdF, tyM, tkM]
            · simp [loopM, hitM, kdM, kdF, tyM, tkM, a1, a2, a3, a4, a5, Ne.symm a1, Ne.symm a2, Ne.symm a3, Ne.symm a4, Ne.symm a5]
set_option maxRecDepth 100000 in
set_option maxHeartbeats 1000000 in
theorem ckind_any (x0 x1 : Int) (six : Bool) (w : World) : Calls Try.prog 50 #[.int .u8 x0, .int .u8 x1, .bool six] w fun e w' => e = .returned (.int .i64 ((kdM six x0 x1 : Nat) : Int)) ∧ w' = w := by
  obtain ⟨K, hK⟩ : ∃ K, kdM six x0 x1 = K := ⟨_, rfl⟩
  rw [hK]
  unfold kdM at hK
  have HK := Lib.hid hK
  clear hK
  go_enter Try.func50, Try.ntmps50
  go_wp2_with fail
  go_loopw [7] (fun v wr => ∃ k : Nat, v = .int .i64 k ∧ 1 ≤ k ∧ k ≤ 6 ∧ wr = w ∧ kdF six x0 x1 (6 - k) k = K) (fun v _ => 6 - (intOf v).toNat)
  case atStart => exact ⟨1, rfl, by omega, by omega, rfl, HK.out⟩
  case round =>
    obtain ⟨k, rfl, hk1, hk6, rfl, hkd⟩ := hrel
    by_cases hk : k ≤ 5
    rotate_left
    · have q5 : ¬ (k : Int) ≤ 5 := by omega
      have HE := Lib.hid (show (0 : Int) = (K : Int) by rw [← hkd, show 6 - k = 0 by omega]; rfl)
      clear hkd hk HK
      go_wp2_with fail
      go_ret
      exact ⟨ret_int HE.out, rfl⟩
    have q5 : (k : Int) ≤ 5 := by omega
    have TT := Lib.hid (ctype_any k six wr (by omega))
    have TK := Lib.hid (ctaken_any k x1 six wr)
    rw [show 6 - k = (6 - (k + 1)) + 1 by omega] at hkd
    unfold kdF at hkd
    generalize tyM k six = ty at *
    generalize tkM k x1 six = tk at *
    have HKK := Lib.hid (show 1 ≤ k ∧ k ≤ 5 from ⟨hk1, hk⟩)
    have WK := Lib.hid (show IntKind.i64.wrap ((k : Int) + 1) = ((k + 1 : Nat) : Int) by rw [IntWalk.i64_in _ (by omega)]; omega)
    obtain ⟨b5, hb5⟩ : ∃ b, (x0 == ty) = b := ⟨_, rfl⟩
    have h3 : (b5 = false) ∨ (b5 = true ∧ tk = true) ∨ (b5 = true ∧ tk = false) := by cases b5 <;> cases tk <;> simp
    rw [hb5] at hkd
    have HB5 := Lib.hid hb5
    have HKD := Lib.hid hkd
    clear hkd hk hk1 hk6 hb5 HK
    rcases h3 with rfl | ⟨rfl, rfl⟩ | ⟨rfl, rfl⟩
    rotate_left 2
    · have HE := Lib.hid (show (k : Int) = (K : Int) by have := HKD.out; simp at this; omega)
      have hb := HB5.out
      clear HKD
      go_wp2_with (first
        | go_skip
        | (go_at_call 26; refine TT.out.mono ?_; rintro e w2 ⟨rfl, hw⟩; obtain rfl := hw.symm)
        | (go_at_call 24; refine TK.out.mono ?_; rintro e w2 ⟨rfl, hw⟩; obtain rfl := hw.symm))
      go_ret
      exact ⟨ret_int HE.out, rfl⟩
    iterate 2
      · have HE := Lib.hid (show kdF six x0 x1 (6 - (k + 1)) (k + 1) = K by have := HKD.out; simpa using this)
        have hb := HB5.out
        clear HKD
        go_wp2_with (first
          | go_skip
          | (go_at_call 26; refine TT.out.mono ?_; rintro e w2 ⟨rfl, hw⟩; obtain rfl := hw.symm)
          | (go_at_call 24; refine TK.out.mono ?_; rintro e w2 ⟨rfl, hw⟩; obtain rfl := hw.symm))
        go_roundw
        case rel => exact ⟨k + 1, by go_num, by omega, by have := HKK.out; omega, by trivial, HE.out⟩
        case measure => have := HKK.out; simp [intOf]; omega
end Go.Proofs.Ytmbfgolcinniiaa.icC

/-
  Packets of IPv6, laid, read, wrapped and turned: plain mathematics over their bytes.
-/
namespace Go.Proofs.Ytmbfgolcinniiaa.sxC
open Go.ChangeShapes Go.WideShapes Go.ChangeAt Go.RowKit
open Go.Proofs.Ytmbfgolcinniiaa.memC Go.Proofs.Ytmbfgolcinniiaa.genC Go.Proofs.Ytmbfgolcinniiaa.adC Go.Proofs.Ytmbfgolcinniiaa.pkC
set_option linter.unusedVariables false
/-- two bytes, and four, as a number -/
def w2 (bs : List Int) (i : Nat) : Int := bs.getD i 0 * 256 + bs.getD (i + 1) 0
end Go.Proofs.Ytmbfgolcinniiaa.sxC

/-
  A reader in a reader: the next byte, an address, a header that is gone past.
-/
namespace Go.Proofs.Ytmbfgolcinniiaa.octC
open Go.ChangeShapes Go.WideShapes Go.ChangeAt Go.RowKit
open Go.Proofs.Ytmbfgolcinniiaa.memC
set_option linter.unusedVariables false
/-- a reader whose bytes lie below B -/
def RdD (w : World) (p B : Nat) (bs : List Int) : Prop := ∃ A n c, w.cell? ⟨p, 0, none⟩ = some (.slice A n c) ∧ w.frozen? ⟨p, 0, none⟩ = false ∧ p < w.heap.size ∧ Nums .u8 w B A n bs ∧ n ≤ c ∧ c ≤ 9223372036854775807 ∧ B ≤ p
section
variable {w w' : World} {p B : Nat} {bs : List Int}
theorem RdD.lt (h : RdD w p B bs) : p < w.heap.size := by obtain ⟨_, _, _, _, _, h3, _⟩ := h; exact h3
theorem RdD.le (h : RdD w p B bs) : B ≤ p := by obtain ⟨_, _, _, _, _, _, _, _, _, h6⟩ := h; exact h6
theorem RdD.keep (h : RdD w p B bs) (hs : w.heap.size ≤ w'.heap.size) (hp : w'.heap[p]? = w.heap[p]?) (hk : ∀ k, k < B → w'.heap[k]? = w.heap[k]?) : RdD w' p B bs := by
  obtain ⟨A, n, c, h1, h2, h3, N, h4, h5, h6⟩ := h
  exact ⟨A, n, c, (World.cell?_of_block (w := w) hp).trans h1, (World.frozen?_of_block (w := w) hp).trans h2, by omega, N.keep fun a ha => World.cell?_of_block (w := w) (hk _ ha), h4, h5, h6⟩
theorem RdD.below (h : RdD w p B bs) (b : Below w.heap.size w w') : RdD w' p B bs :=
  h.keep b.size (b.block _ h.lt) fun k hk => b.block _ (by have := h.lt; have := h.le; omega)
theorem RdD.set_ {s : Nat} {A : Option Addr} {n c : Nat} (h : w.cell? ⟨p, 0, none⟩ = some (.slice A n c)) (hf : w.frozen? ⟨p, 0, none⟩ = false) (hp : p < w.heap.size) (N : Nums .u8 w B A n bs) (hn : s ≤ n) (hnc : n ≤ c) (hc : c ≤ 9223372036854775807) (hB : B ≤ p) :
    RdD (w.setCell ⟨p, 0, none⟩ (.slice (if c = s then A else A.map (·.add s)) (n - s) (c - s))) p B (bs.drop s) :=
  ⟨(if c = s then A else A.map (·.add s)), n - s, c - s, by go_simp, by go_simp, by simpa [World.setCell] using hp, (N.cut hn hnc).below ((Below.refl _ _).setCell (p := ⟨p, 0, none⟩) hB _), by omega, by omega, hB⟩
end
/-- the next number -/
def NumD (w : World) (p B : Nat) (bs : List Int) (s : Nat) (e : Ending) (w' : World) : Prop := e = .returned (.int .u64 (getZ (bs.take s))) ∧ RdD w' p B (bs.drop s) ∧ Fr (· = p) w w'
set_option maxRecDepth 100000 in
theorem num_okD (p B : Nat) (bs : List Int) (size : Int) (w : World) (h : RdD w p B bs) (h0 : 0 < size) (h2 : size ≤ 9223372036854775807) (hs : fitN size ≤ bs.length) (hl : bs.length ≤ 100000) (hy : ∀ x ∈ bs, Byte x) :
    Calls Try.prog 49 #[.pointer (some ⟨p, 0, none⟩), .int .i64 size] w (NumD w p B bs (fitN size)) := by
  obtain ⟨A, n, c, hc, hf, hp, N, hnc, hcm, hB⟩ := h
  have e0 : 0 < fitN size := by have := fitN_eq size; omega
  have hn : fitN size ≤ n := by rw [← N.len]; exact hs
  have h8 := fitN_le size
  have R := RdD.set_ (s := fitN size) hc hf hp N hn hnc hcm hB
  have N2 : Nums .u8 (w.setCell ⟨p, 0, none⟩ (.slice (if c = fitN size then A else A.map (·.add (fitN size))) (n - fitN size) (c - fitN size))) B A (fitN size) (bs.take (fitN size)) :=
    (N.upto hn).below ((Below.refl _ _).setCell (p := ⟨p, 0, none⟩) hB _)
  have G : Fr (· = p) w (w.setCell ⟨p, 0, none⟩ (.slice (if c = fitN size then A else A.map (·.add (fitN size))) (n - fitN size) (c - fitN size))) := Fr.setCell (S := fun x => x = p) _ (fun _ => rfl) _
  have hz : B ≤ (w.setCell ⟨p, 0, none⟩ (.slice (if c = fitN size then A else A.map (·.add (fitN size))) (n - fitN size) (c - fitN size))).heap.size := by simp [World.setCell]; omega
  have H := Lib.hid hc; have HF := Lib.hid hf
  clear hc hf
  have TK := take_ok p A n c (fitN size) w H.out HF.out e0 hn hnc hcm
  generalize w.setCell ⟨p, 0, none⟩ (.slice (if c = fitN size then A else A.map (·.add (fitN size))) (n - fitN size) (c - fitN size)) = w1 at *
  have EL := Lib.hid (last8_take bs (fitN size) h8)
  go_enter Try.func49, Try.ntmps49
  go_wp2_with (first
    | (go_at_call 41; refine (fit_any _ _ (by omega) h2).mono ?_; rintro e w' ⟨rfl, rfl⟩)
    | (go_at_call 56; refine TK.mono ?_; rintro e w' ⟨rfl, rfl⟩)
    | (go_at_call 55; refine (get_any _ _ _ _ _ (N2.more hz) (by omega) (by omega) hcm (fun x hx => hy x (List.mem_of_mem_take hx))).mono ?_; rintro e w' ⟨rfl, rfl⟩))
  go_ret
  exact ⟨ret_int (by rw [EL.out]), R, G⟩
/-- the next bytes, the call's own, and what is left -/
def ByD (w : World) (p B : Nat) (bs : List Int) (s : Nat) (e : Ending) (w' : World) : Prop :=
  ∃ A c, e = .returned (.slice A s c) ∧ Own .u8 5 w' w.heap.size (.slice A s c) (bs.take s) ∧ s ≤ c ∧ c ≤ maxLen ∧ RdD w' p B (bs.drop s) ∧ Fr (· = p) w w'
theorem bytes_okD (p B : Nat) (bs : List Int) (s : Nat) (z : Int) (w : World) (h : RdD w p B bs) (hz : (s : Int) = z) (hs : s ≤ bs.length) (hl : bs.length ≤ 100000) :
    Calls Try.prog 51 #[.pointer (some ⟨p, 0, none⟩), .int .i64 z] w (ByD w p B bs s) := by
  by_cases h0 : s = 0
  · subst h0
    have T := Lib.hid (take_zero (some ⟨p, 0, none⟩) z w (by omega))
    have HR := Lib.hid h
    clear h hs hl hz
    go_enter Try.func51, Try.ntmps51
    go_wp2_with (first
      | (go_at_call 56; refine T.out.mono ?_; rintro e w' ⟨rfl, rfl⟩)
      | (go_at_call 40; refine (clone_none 0 0 _).mono ?_; rintro e w' ⟨rfl, rfl⟩))
    go_ret
    exact ⟨none, 0, rfl, Own.nil _ _, Nat.le_refl _, Nat.zero_le _, by simpa using HR.out, Fr.refl _⟩
  · obtain ⟨A, n, c, hc, hf, hp, N, hnc, hcm, hB⟩ := h
    have hn : s ≤ n := by rw [← N.len]; exact hs
    have R := RdD.set_ (s := s) hc hf hp N hn hnc hcm hB
    have N2 : Nums .u8 (w.setCell ⟨p, 0, none⟩ (.slice (if c = s then A else A.map (·.add s)) (n - s) (c - s))) B A s (bs.take s) :=
      (N.upto hn).below ((Below.refl _ _).setCell (p := ⟨p, 0, none⟩) hB _)
    have F1 : Fr (· = p) w (w.setCell ⟨p, 0, none⟩ (.slice (if c = s then A else A.map (·.add s)) (n - s) (c - s))) := Fr.setCell (S := fun x => x = p) _ (fun _ => rfl) _
    have hz2 : w.heap.size = (w.setCell ⟨p, 0, none⟩ (.slice (if c = s then A else A.map (·.add s)) (n - s) (c - s))).heap.size := by simp [World.setCell]
    have TK := Lib.hid (take_ok p A n c s w hc hf (by omega) hn hnc hcm)
    rw [hz] at TK
    clear hc hf
    generalize w.setCell ⟨p, 0, none⟩ (.slice (if c = s then A else A.map (·.add s)) (n - s) (c - s)) = w1 at *
    have CL := Lib.hid (clone_any A s c (bs.take s) w1 (N2.more (by omega)) (by rw [N.len] at hl; omega))
    have HR := Lib.hid R
    have HF := Lib.hid F1
    have HZ := Lib.hid hz2
    have HL := Lib.hid (show (bs.take s).length = s by rw [List.length_take]; omega)
    clear N N2 R F1 hz2 hnc hcm hs hl h0 hn hz
    go_enter Try.func51, Try.ntmps51
    go_wp2_with (first
      | (go_at_call 56; refine TK.out.mono ?_; rintro e w' ⟨rfl, rfl⟩)
      | (go_at_call 40; refine CL.out.mono ?_; rintro e w2 ⟨A2, c2, he, O, h1, h2, N, Bb⟩
         rw [HL.out] at he O h1
         subst he
         have HO := Lib.hid O
         have HB := Lib.hid Bb
         clear O N Bb))
    go_ret
    refine ⟨A2, c2, rfl, ?_, h1, h2, HR.out.below HB.out, HF.out.trans (Fr.below HB.out)⟩
    rw [HZ.out]; exact HO.out
end Go.Proofs.Ytmbfgolcinniiaa.octC
namespace Go.Proofs.Ytmbfgolcinniiaa.sxC
open Go.ChangeShapes Go.WideShapes Go.ChangeAt Go.RowKit
open Go.Proofs.Ytmbfgolcinniiaa.memC Go.Proofs.Ytmbfgolcinniiaa.genC Go.Proofs.Ytmbfgolcinniiaa.adC Go.Proofs.Ytmbfgolcinniiaa.pkC
open Go.Proofs.Ytmbfgolcinniiaa.octC (Fr Rd RdD stopped)
set_option linter.unusedVariables false
theorem getZ1 {bs : List Int} (h : 1 ≤ bs.length) : octC.getZ (bs.take 1) = bs.getD 0 0 := by
  match bs, h with
  | x :: r, _ => show 0 * 256 + x = x; omega
theorem getZ2 {bs : List Int} (h : 2 ≤ bs.length) : octC.getZ (bs.take 2) = w2 bs 0 := by
  match bs, h with
  | x :: y :: r, _ => show (0 * 256 + x) * 256 + y = x * 256 + y; omega
end Go.Proofs.Ytmbfgolcinniiaa.sxC

/-
  The message that a reader has: the program's.
-/
namespace Go.Proofs.Ytmbfgolcinniiaa.icC
open Go.ChangeShapes Go.WideShapes Go.ChangeAt Go.RowKit
open Go.Proofs.Ytmbfgolcinniiaa.memC Go.Proofs.Ytmbfgolcinniiaa.genC Go.Proofs.Ytmbfgolcinniiaa.butC Go.Proofs.Ytmbfgolcinniiaa.freeC Go.Proofs.Ytmbfgolcinniiaa.adC
open Go.Proofs.Ytmbfgolcinniiaa.octC (getZ Fr)
open Go.Proofs.Ytmbfgolcinniiaa.octC (RdD)
set_option linter.unusedVariables false
theorem rnum {p B : Nat} {bs : List Int} {w : World} (h : RdD w p B bs) (s : Nat) (z : Int) (hs : octC.fitN z = s) (h0 : 0 < z) (h2 : z ≤ 9223372036854775807) (hl : s ≤ bs.length) (hm : bs.length ≤ 100000) (hy : ∀ x ∈ bs, Byte x) (v : Int) (hv : getZ (bs.take s) = v) (D : List Int) (hD : bs.drop s = D) :
    Calls Try.prog 49 #[.pointer (some ⟨p, 0, none⟩), .int .i64 z] w fun e w' => e = .returned (.int .u64 v) ∧ RdD w' p B D ∧ Fr (· = p) w w' := by
  subst hs hv hD
  exact octC.num_okD p B bs z w h h0 h2 hl hm hy
theorem rleft {p B : Nat} {bs : List Int} {w : World} (h : RdD w p B bs) (k : Nat) (hk : bs.length = k) : Calls Try.prog 52 #[.pointer (some ⟨p, 0, none⟩)] w fun e w' => e = .returned (.int .i64 (k : Nat)) ∧ w' = w := by
  subst hk
  obtain ⟨A, n, c, h1, h2, h3, N, h4, h5, h6⟩ := h
  refine (octC.left_some p A n c w h1).mono fun e w' h => ⟨?_, h.2.symm⟩
  rw [N.len]; exact h.1
theorem rbytes {p B : Nat} {bs : List Int} {w : World} (h : RdD w p B bs) (n : Nat) (hn : bs.length = n) (hl : n ≤ 100000) : Calls Try.prog 51 #[.pointer (some ⟨p, 0, none⟩), .int .i64 (n : Nat)] w fun e w' => ∃ A c, e = .returned (.slice A n c) ∧ Own .u8 5 w' w.heap.size (.slice A n c) bs ∧ Fr (· = p) w w' := by
  subst hn
  refine (octC.bytes_okD p B bs bs.length _ w h rfl (Nat.le_refl _) hl).mono fun e w' h => ?_
  obtain ⟨A, c, h1, h2, -, -, -, h6⟩ := h
  rw [List.take_length] at h2
  exact ⟨A, c, h1, h2, h6⟩
/-- the message of bytes, and its data -/
def rdM (six : Bool) (bs : List Int) : Ms × List Int :=
  if kdM six (bs.getD 0 0) (bs.getD 1 0) = 0 then (zMs, []) else (keptM { headI bs with ki := (kdM six (bs.getD 0 0) (bs.getD 1 0) : Nat) }, bs.drop 8)
def RdM (p : Nat) (w : World) (r : Ms × List Int) (e : Ending) (w' : World) : Prop := ∃ A n c, e = .returned (.agg (msV r.1 A n c)) ∧ Own .u8 5 w' w.heap.size (.slice A n c) r.2 ∧ Fr (· = p) w w'
theorem word_id {l : List Int} (h : 4 ≤ l.length) (hy : ∀ x ∈ l, Byte x) : getZ (l.take 4) / 65536 = getZ (l.take 2) ∧ getZ (l.take 4) % 65536 = getZ ((l.drop 2).take 2) ∧ 0 ≤ getZ (l.take 4) ∧ getZ (l.take 4) ≤ 4294967295 ∧ 0 ≤ getZ (l.take 2) ∧ getZ (l.take 2) ≤ 65535 ∧ 0 ≤ getZ ((l.drop 2).take 2) ∧ getZ ((l.drop 2).take 2) ≤ 65535 := by
  obtain ⟨a, b, c, d, r, rfl⟩ : ∃ a b c d r, l = a :: b :: c :: d :: r := by
    match l, h with
    | a :: b :: c :: d :: r, _ => exact ⟨a, b, c, d, r, rfl⟩
  have ha := hy a (by simp); have hb := hy b (by simp); have hc := hy c (by simp); have hd := hy d (by simp)
  unfold Byte at ha hb hc hd
  have e4 : getZ ((a :: b :: c :: d :: r).take 4) = (((0 * 256 + a) * 256 + b) * 256 + c) * 256 + d := rfl
  have e2 : getZ ((a :: b :: c :: d :: r).take 2) = (0 * 256 + a) * 256 + b := rfl
  have e3 : getZ (((a :: b :: c :: d :: r).drop 2).take 2) = (0 * 256 + c) * 256 + d := rfl
  rw [e4, e2, e3]
  refine ⟨?_, ?_, ?_, ?_, ?_, ?_, ?_, ?_⟩ <;> omega
set_option maxRecDepth 100000 in
set_option maxHeartbeats 4000000 in
theorem cread_any (p B : Nat) (bs : List Int) (six : Bool) (w : World) (h : RdD w p B bs) (h8 : 8 ≤ bs.length) (hl : bs.length ≤ 9000) (hy : ∀ x ∈ bs, Byte x) :
    Calls Try.prog 36 #[.pointer (some ⟨p, 0, none⟩), .bool six] w (RdM p w (rdM six bs)) := by
  have hzv := zeroCs
  obtain ⟨W, hW⟩ : ∃ W, W = w.alloc (.cells (msV zMs none 0 0) 36) := ⟨_, rfl⟩
  have HB := Lib.hid (show Below w.heap.size w W by rw [hW]; exact alloc_below _ _)
  have RZ := Lib.hid (show W.heap[w.heap.size]? = some (.cells (msV zMs none 0 0) 36 (0, 0)) by rw [hW]; exact heap_alloc_new _ _)
  have R0 := Lib.hid (h.below HB.out)
  have HP := Lib.hid (show p < w.heap.size ∧ B ≤ p from ⟨h.lt, h.le⟩)
  have hyd : ∀ k, ∀ x ∈ bs.drop k, Byte x := fun k x hx => hy x (List.mem_of_mem_drop hx)
  have hb0 := hy (bs.getD 0 0) (by rw [List.getD_eq_getElem?_getD, List.getElem?_eq_getElem (by omega)]; exact List.getElem_mem _)
  have hb1 := hy (bs.getD 1 0) (by rw [List.getD_eq_getElem?_getD, List.getElem?_eq_getElem (by omega)]; exact List.getElem_mem _)
  obtain ⟨wi, wq, w0, w1, wi0, wi1, wq0, wq1⟩ := word_id (l := bs.drop 4) (by rw [List.length_drop]; omega) (hyd 4)
  rw [List.drop_drop] at wq wq0 wq1
  obtain ⟨D1, hD1⟩ : ∃ D, D = bs.drop 1 := ⟨_, rfl⟩
  obtain ⟨D2, hD2⟩ : ∃ D, D = bs.drop 2 := ⟨_, rfl⟩
  obtain ⟨D4, hD4⟩ : ∃ D, D = bs.drop 4 := ⟨_, rfl⟩
  obtain ⟨D8, hD8⟩ : ∃ D, D = bs.drop 8 := ⟨_, rfl⟩
  have l1 : D1.length = bs.length - 1 := by rw [hD1, List.length_drop]
  have l2 : D2.length = bs.length - 2 := by rw [hD2, List.length_drop]
  have l4 : D4.length = bs.length - 4 := by rw [hD4, List.length_drop]
  have l8 : D8.length = bs.length - 8 := by rw [hD8, List.length_drop]
  have N1 := Lib.hid (rnum R0.out 1 1 (show octC.fitN 1 = 1 by decide) (by decide) (by decide) (by omega) (by omega) hy _ (sxC.getZ1 (by omega)) D1 hD1.symm)
  have N2 := Lib.hid (fun w' (h : RdD w' p B D1) => rnum h 1 1 (show octC.fitN 1 = 1 by decide) (by decide) (by decide) (by omega) (by omega) (by rw [hD1]; exact hyd 1) (bs.getD 1 0) (by rw [sxC.getZ1 (by omega), hD1]; simp [List.getD_eq_getElem?_getD]) D2 (by rw [hD1, hD2, List.drop_drop]))
  have N3 := Lib.hid (fun w' (h : RdD w' p B D2) => rnum h 2 2 (show octC.fitN 2 = 2 by decide) (by decide) (by decide) (by omega) (by omega) (by rw [hD2]; exact hyd 2) _ rfl D4 (by rw [hD2, hD4, List.drop_drop]))
  have N4 := Lib.hid (fun w' (h : RdD w' p B D4) => rnum h 4 4 (show octC.fitN 4 = 4 by decide) (by decide) (by decide) (by omega) (by omega) (by rw [hD4]; exact hyd 4) (getZ ((bs.drop 4).take 4)) (by rw [hD4]) D8 (by rw [hD4, hD8, List.drop_drop]))
  obtain ⟨n8, hn8⟩ : ∃ k, k = D8.length := ⟨_, rfl⟩
  have LF := Lib.hid (fun w' (h : RdD w' p B D8) => rleft h n8 hn8.symm)
  have BY := Lib.hid (fun w' (h : RdD w' p B D8) => rbytes h n8 hn8.symm (by omega))
  have KI := Lib.hid (fun w' => ckind_any (bs.getD 0 0) (bs.getD 1 0) six w')
  have kle := kdM_le six (bs.getD 0 0) (bs.getD 1 0)
  have CT := Lib.hid (fun (A : Option Addr) (c : Nat) (w' : World) => count_any { headI bs with ki := ((kdM six (bs.getD 0 0) (bs.getD 1 0) : Nat) : Int) } A n8 c w')
  have BL := Lib.hid (fun (A : Option Addr) (c : Nat) => cs_built6 ((kdM six (bs.getD 0 0) (bs.getD 1 0) : Nat) : Int) (bs.getD 1 0) (getZ ((bs.drop 4).take 2)) (getZ ((bs.drop 6).take 2)) (getZ ((bs.drop 4).take 4)) A n8 c)
  obtain ⟨RR, hRR⟩ : ∃ R, R = rdM six bs := ⟨_, rfl⟩
  rw [← hRR]
  unfold rdM at hRR
  unfold headI at CT hRR
  simp only at CT
  generalize kdM six (bs.getD 0 0) (bs.getD 1 0) = kd at *
  generalize getZ ((bs.drop 4).take 4) = wd at *
  generalize getZ ((bs.drop 4).take 2) = id at *
  generalize getZ ((bs.drop 6).take 2) = sq at *
  generalize bs.getD 0 0 = x0 at *
  generalize bs.getD 1 0 = x1 at *
  generalize getZ (D2.take 2) = v2 at *
  unfold Byte at hb0 hb1
  have C0 := Lib.hid (show IntKind.u8.wrap x0 = x0 from IntWalk.u8_in _ (by omega))
  have C1 := Lib.hid (show IntKind.u8.wrap x1 = x1 from IntWalk.u8_in _ (by omega))
  have CW := Lib.hid (show IntKind.u32.wrap wd = wd from IntWalk.u32_in _ (by omega))
  have CI := Lib.hid (show IntKind.u16.wrap id = id from IntWalk.u16_in _ (by omega))
  have DI := Lib.hid wi
  have CQ := Lib.hid (show IntKind.u16.wrap wd = sq by rw [← wq]; rfl)
  have DQ := Lib.hid wq
  rw [← hD8] at hRR
  clear h h8 hl hy hyd hb0 hb1 wi wq w0 w1 wi0 wi1 wq0 wq1 hD1 hD2 hD4 hD8 l1 l2 l4 l8 hn8
  by_cases hk : kd = 0
  · have hR : RR = (zMs, []) := by rw [hRR, if_pos hk]
    have HRR := Lib.hid hR
    have IR := Lib.hid (msC zMs none 0 0).cinfo
    have OR := Lib.hid (ms_one zMs none 0 0)
    have CU := Lib.hid (fun (A : Option Addr) (c : Nat) (w' : World) => (show Calls Try.prog 32 #[.agg (msV ⟨((kd : Nat) : Int), x1, id, sq, wd⟩ A n8 c)] w' (CtR w' (msV zMs none 0 0) false) by
      have h9 := CT.out A c w'
      rw [if_neg (by omega), decide_eq_false (by omega)] at h9
      exact h9))
    clear hRR hR CT
    generalize hZ : msV zMs none 0 0 = ZC at *
    have HZ := Lib.hid hZ
    clear hZ hk kle
    generalize (kd : Int) = kz at *
    go_enter Try.func36, Try.ntmps36
    go_upto_region 1 with fail
    rw [← hW]
    clear hW
    have c0 := C0.out
    have c1 := C1.out
    go_upto_region 2 with (first
      | (go_at_call 49; (with_reducible refine N1.out.mono ?_); rintro e w1 ⟨rfl, R1, F1⟩
         have HR1 := Lib.hid R1
         have HF1 := Lib.hid F1
         clear R1 F1)
      | (go_at_call 49; (with_reducible refine (N2.out w1 HR1.out).mono ?_); rintro e w2 ⟨rfl, R2, F2⟩
         have HR2 := Lib.hid R2
         have HF2 := Lib.hid (HF1.out.trans F2)
         clear R2 F2))
    clear c0 c1 HR1 HF1 N1 N2
    go_upto_region 3 with (first
      | (go_at_call 49; (with_reducible refine (N3.out w2 HR2.out).mono ?_); rintro e w3 ⟨rfl, R3, F3⟩
         have HR3 := Lib.hid R3
         have HF3 := Lib.hid (HF2.out.trans F3)
         clear R3 F3))
    clear HR2 HF2 N3
    have cw := CW.out
    go_upto_region 4 with (first
      | (go_at_call 49; (with_reducible refine (N4.out w3 HR3.out).mono ?_); rintro e w4 ⟨rfl, R4, F4⟩
         have HR4 := Lib.hid R4
         have HF4 := Lib.hid (HF3.out.trans F4)
         clear R4 F4))
    clear HR3 HF3 N4 cw
    have ci := CI.out
    have di := DI.out
    have cq := CQ.out
    have dq := DQ.out
    go_upto_region 5 with (first
      | (go_at_call 50; refine (KI.out w4).mono ?_; rintro e w5 ⟨rfl, hw⟩; obtain rfl := hw.symm)
      | (go_at_call 52; refine (LF.out w4 HR4.out).mono ?_; rintro e w5 ⟨rfl, hw⟩; obtain rfl := hw.symm)
      | (go_at_call 51; refine (BY.out w4 HR4.out).mono ?_; rintro e w5 ⟨A5, c5, rfl, O5, F5⟩
         have HO5 := Lib.hid O5
         have HF5 := Lib.hid (HF4.out.trans F5)
         have HS5 := Lib.hid HF4.out.size
         have BT := Lib.hid (BL.out A5 c5)
         have CC := Lib.hid (CU.out A5 c5 w5)
         clear O5 F5)
      | (with_reducible refine at_buildI 36 ?_; refine wpList_runG (by kernel_rfl) _ (built_runI (T := 36) (L := [(0, .int .i64 kz), (1, .int .u8 x1), (2, .int .u16 id), (3, .int .u16 sq), (4, .int .u32 wd), (5, .slice A5 n8 c5)]) rfl rfl BT.out) ?_)
      | (go_at_call 32; refine CC.out.mono ?_; rintro e w6 ⟨rfl, BB⟩
         have HB6 := Lib.hid BB
         have HF6 := Lib.hid (HF5.out.trans (Fr.below BB))
         clear BB)
      | (refine wpList_store_row rfl 36 (.tmp 8) (.tmp 39) rfl w6.heap.size _ rfl rfl _ _ (heap_alloc_new _ _) IR.out rfl OR.out ?_; rw [World.setRow_alloc_new]))
    have B67 := Lib.hid (alloc_below w6 (.cells ZC 36))
    have R7 := Lib.hid (heap_alloc_new w6 (.cells ZC 36))
    generalize w6.alloc (.cells ZC 36) = w7 at *
    have RW := Lib.hid (HF6.out.row RZ.out (show ¬ w.heap.size = p by have := HP.out; omega))
    have RW7 := Lib.hid (show w7.heap[w.heap.size]? = some (.cells ZC 36 (0, 0)) by rw [B67.out.block _ (lt_of_rowI RW.out)]; exact RW.out)
    have SW := Lib.hid (show w.heap.size ≤ W.heap.size from HB.out.size)
    clear ci di cq dq RW
    go_wp2_with (first
      | (refine wpList_load_row rfl 36 (.tmp 8) rfl w6.heap.size rfl _ _ _ _ R7.out Try.underlying36 rfl IR.out ?_)
      | (refine wpList_store_row rfl 36 (.tmp 4) (.tmp 41) rfl w.heap.size _ rfl rfl _ _ RW7.out IR.out rfl OR.out ?_))
    refine bodyPost_ret (v := .agg ZC) (Go.results_cell_row Try.results36 _ _ w.heap.size _ _ _ _ (by rfl) (setRow_heap _ _ _ _ _ _ RW7.out) Try.underlying36 rfl IR.out) rfl ?_
    exact ⟨none, 0, 0, by rw [HRR.out, HZ.out], by rw [HRR.out]; exact Own.nil _ _, ((Fr.below HB.out).trans (HF6.out.trans (Fr.below B67.out))).setRow (Nat.le_refl _) _⟩
  have hR : RR = (keptM ⟨((kd : Nat) : Int), x1, id, sq, wd⟩, D8) := by rw [hRR, if_neg hk]
  have HRR := Lib.hid hR
  have CU := Lib.hid (fun (A : Option Addr) (c : Nat) (w' : World) => (show Calls Try.prog 32 #[.agg (msV ⟨((kd : Nat) : Int), x1, id, sq, wd⟩ A n8 c)] w' (CtR w' (msV (keptM ⟨((kd : Nat) : Int), x1, id, sq, wd⟩) A n8 c) true) by
    have h9 := CT.out A c w'
    rw [if_pos (by omega), decide_eq_true (by omega)] at h9
    exact h9))
  have SR := Lib.hid (show ∀ (A : Option Addr) (c : Nat), (msV zMs none 0 0).size = (msV (keptM ⟨((kd : Nat) : Int), x1, id, sq, wd⟩) A n8 c).size from fun _ _ => rfl)
  obtain ⟨mk, hmk⟩ : ∃ k, k = keptM ⟨((kd : Nat) : Int), x1, id, sq, wd⟩ := ⟨_, rfl⟩
  rw [← hmk] at CU HRR SR
  clear hRR hR hmk CT
  generalize hZ : msV zMs none 0 0 = ZC at *
  have HZ := Lib.hid hZ
  clear hZ hk kle
  generalize (kd : Int) = kz at *
  go_enter Try.func36, Try.ntmps36
  go_upto_region 1 with fail
  rw [← hW]
  clear hW
  have c0 := C0.out
  have c1 := C1.out
  go_upto_region 2 with (first
    | (go_at_call 49; (with_reducible refine N1.out.mono ?_); rintro e w1 ⟨rfl, R1, F1⟩
       have HR1 := Lib.hid R1
       have HF1 := Lib.hid F1
       clear R1 F1)
    | (go_at_call 49; (with_reducible refine (N2.out w1 HR1.out).mono ?_); rintro e w2 ⟨rfl, R2, F2⟩
       have HR2 := Lib.hid R2
       have HF2 := Lib.hid (HF1.out.trans F2)
       clear R2 F2))
  clear c0 c1 HR1 HF1 N1 N2
  go_upto_region 3 with (first
    | (go_at_call 49; (with_reducible refine (N3.out w2 HR2.out).mono ?_); rintro e w3 ⟨rfl, R3, F3⟩
       have HR3 := Lib.hid R3
       have HF3 := Lib.hid (HF2.out.trans F3)
       clear R3 F3))
  clear HR2 HF2 N3
  have cw := CW.out
  go_upto_region 4 with (first
    | (go_at_call 49; (with_reducible refine (N4.out w3 HR3.out).mono ?_); rintro e w4 ⟨rfl, R4, F4⟩
       have HR4 := Lib.hid R4
       have HF4 := Lib.hid (HF3.out.trans F4)
       clear R4 F4))
  clear HR3 HF3 N4 cw
  have ci := CI.out
  have di := DI.out
  have cq := CQ.out
  have dq := DQ.out
  go_upto_region 5 with (first
    | (go_at_call 50; refine (KI.out w4).mono ?_; rintro e w5 ⟨rfl, hw⟩; obtain rfl := hw.symm)
    | (go_at_call 52; refine (LF.out w4 HR4.out).mono ?_; rintro e w5 ⟨rfl, hw⟩; obtain rfl := hw.symm)
    | (go_at_call 51; refine (BY.out w4 HR4.out).mono ?_; rintro e w5 ⟨A5, c5, rfl, O5, F5⟩
       have HO5 := Lib.hid O5
       have HF5 := Lib.hid (HF4.out.trans F5)
       have HS5 := Lib.hid HF4.out.size
       have BT := Lib.hid (BL.out A5 c5)
       have CC := Lib.hid (CU.out A5 c5 w5)
       have IR := Lib.hid (msC mk A5 n8 c5).cinfo
       have OR := Lib.hid (ms_one mk A5 n8 c5)
       have SR5 := Lib.hid (SR.out A5 c5)
       obtain ⟨RC, hRC⟩ : ∃ C, C = msV mk A5 n8 c5 := ⟨_, rfl⟩
       rw [← hRC] at IR OR SR5 CC
       have HRC := Lib.hid hRC
       clear hRC
       clear O5 F5)
    | (with_reducible refine at_buildI 36 ?_; refine wpList_runG (by kernel_rfl) _ (built_runI (T := 36) (L := [(0, .int .i64 kz), (1, .int .u8 x1), (2, .int .u16 id), (3, .int .u16 sq), (4, .int .u32 wd), (5, .slice A5 n8 c5)]) rfl rfl BT.out) ?_)
    | (go_at_call 32; refine CC.out.mono ?_; rintro e w6 ⟨rfl, BB⟩
       have HB6 := Lib.hid BB
       have HF6 := Lib.hid (HF5.out.trans (Fr.below BB))
       clear BB)
    | (refine wpList_store_row rfl 36 (.tmp 8) (.tmp 39) rfl w6.heap.size _ rfl rfl _ _ (heap_alloc_new _ _) IR.out SR5.out OR.out ?_; rw [World.setRow_alloc_new]))
  have B67 := Lib.hid (alloc_below w6 (.cells RC 36))
  have R7 := Lib.hid (heap_alloc_new w6 (.cells RC 36))
  generalize w6.alloc (.cells RC 36) = w7 at *
  have RW := Lib.hid (HF6.out.row RZ.out (show ¬ w.heap.size = p by have := HP.out; omega))
  have RW7 := Lib.hid (show w7.heap[w.heap.size]? = some (.cells ZC 36 (0, 0)) by rw [B67.out.block _ (lt_of_rowI RW.out)]; exact RW.out)
  have SW := Lib.hid (show w.heap.size ≤ W.heap.size from HB.out.size)
  clear ci di cq dq RW
  go_wp2_with (first
    | (refine wpList_load_row rfl 36 (.tmp 8) rfl w6.heap.size rfl _ _ _ _ R7.out Try.underlying36 rfl IR.out ?_)
    | (refine wpList_store_row rfl 36 (.tmp 4) (.tmp 41) rfl w.heap.size _ rfl rfl _ _ RW7.out IR.out SR5.out OR.out ?_))
  refine bodyPost_ret (v := .agg RC) (Go.results_cell_row Try.results36 _ _ w.heap.size _ _ _ _ (by rfl) (setRow_heap _ _ _ _ _ _ RW7.out) Try.underlying36 rfl IR.out) rfl ?_
  have HO7 := Lib.hid (show Own .u8 5 w7 w4.heap.size (.slice A5 n8 c5) D8 from (HO5.out.below HB6.out).below B67.out)
  exact ⟨A5, n8, c5, by rw [HRR.out, HRC.out], by rw [HRR.out]; exact own_otherI (HO7.out.less (Nat.le_trans SW.out HS5.out)) RW7.out (by decide), ((Fr.below HB.out).trans (HF6.out.trans (Fr.below B67.out))).setRow (Nat.le_refl _) _⟩
end Go.Proofs.Ytmbfgolcinniiaa.icC
