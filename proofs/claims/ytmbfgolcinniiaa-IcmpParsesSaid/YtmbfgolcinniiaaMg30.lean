/-
  3 texts of a proof, joined.
-/
import Derived.Test.YtmbfgolcinniiaaMg29
import Derived.Test.YtmbfgolcinniiaaMg25
import Derived.Test.YtmbfgolcinniiaaMg22
import Derived.Test.YtmbfgolcinniiaaMg16
import Derived.Test.YtmbfgolcinniiaaMg5
import Derived.BigRegion
import Derived.Deep.CutRange
import Derived.StillTailTactics

/-
  The walk of IcmpLays.
-/
namespace Go.Proofs.Ytmbfgolcinniiaa.icC
open Go.ChangeShapes Go.WideShapes Go.ChangeAt Go.RowKit
open Go.Proofs.Ytmbfgolcinniiaa.memC Go.Proofs.Ytmbfgolcinniiaa.genC Go.Proofs.Ytmbfgolcinniiaa.butC Go.Proofs.Ytmbfgolcinniiaa.freeC Go.Proofs.Ytmbfgolcinniiaa.adC
open Go.Proofs.Ytmbfgolcinniiaa.pkC (OwnE)
set_option linter.unusedVariables false
theorem seq_selfI {P : Program} {o : Oper} {a : Act} {w : World} {T : TypeId} {s x : Operand} {S : ByteArray} {R : TypeId} (ho : o.op = .binOp .eql T s x R) (hs : a.eval s = .string S) (hx : a.eval x = .string S) : (execOp a.eval o).run P w = .ok (.value (.bool true)) w :=
  seq_run ho hs hx (by simp)
def vaV (g2 g3 n4 : Nat) (CP C1 C2 : Array Value) (er : Int) (LL : List Int) (base : Nat) : Nat → Value → World → Prop
  | 0, v, _ => v = .agg CP
  | 1, v, _ => v = .agg CP
  | 2, v, _ => v = .pointer (some ⟨g3, 0, none⟩)
  | 3, v, _ => v = .agg C1
  | 4, v, _ => v = .pointer (some ⟨g3, 17, none⟩)
  | 5, v, _ => v = .agg C2
  | 6, v, w => ∃ A' c', v = .tuple #[.slice A' n4 c', .int .i64 er] ∧ Own .u8 5 w base (.slice A' n4 c') LL
  | 7, v, w => ∃ A' c', v = .tuple #[.slice A' n4 c', .int .i64 er] ∧ Own .u8 5 w base (.slice A' n4 c') LL
  | 8, v, w => ∃ A' c', v = .slice A' n4 c' ∧ Own .u8 5 w base (.slice A' n4 c') LL
  | 9, v, _ => v = .int .i64 er
  | 10, v, w => ∃ A' c', v = .slice A' n4 c' ∧ Own .u8 5 w base (.slice A' n4 c') LL
  | 11, v, _ => v = .int .i64 er
  | _, _, _ => True
theorem vaV.keep (g2 g3 n4 : Nat) (CP C1 C2 : Array Value) (er : Int) (LL : List Int) (base : Nat) (i : Nat) (v : Value) (w w' : World) (hb : Below w.heap.size w w') (h : vaV g2 g3 n4 CP C1 C2 er LL base i v w) : vaV g2 g3 n4 CP C1 C2 er LL base i v w' := by
  by_cases e6 : i = 6
  · subst e6
    obtain ⟨A', c', h1, h2⟩ := h
    exact ⟨A', c', h1, h2.below hb⟩
  by_cases e7 : i = 7
  · subst e7
    obtain ⟨A', c', h1, h2⟩ := h
    exact ⟨A', c', h1, h2.below hb⟩
  by_cases e8 : i = 8
  · subst e8
    obtain ⟨A', c', h1, h2⟩ := h
    exact ⟨A', c', h1, h2.below hb⟩
  by_cases e10 : i = 10
  · subst e10
    obtain ⟨A', c', h1, h2⟩ := h
    exact ⟨A', c', h1, h2.below hb⟩
  unfold vaV at h ⊢
  split at h <;> first | exact h | exact absurd rfl (by assumption)
def vaT : List (Option Nat) := [none, none, none, none, none, none, none, some 10, some 11, none, none, none, none, none, none, none, none, none, some 7, some 0, some 1, some 2, some 3, some 4, some 5, some 6, some 8, some 9, none, none, none, none, none, none, none, none, none, none, none, none, none, none, none, none, none, none, none, none, none, none, none, none, none, none, none, none, none, none, none, none, none, none, none, none, none, none, none, none, none, none, none, none, none, none, none, none, none, none, none, none, none, none]
def vbV (g0 g1 gT : Nat) (CP CQ : Array Value) (A1 A2 : Option Addr) (n4 c1 c2 : Nat) (er : Int) (my sm s1 : Bool) (SB : ByteArray) : Nat → Value → World → Prop
  | 0, v, _ => v = .slice A1 n4 c1
  | 1, v, _ => v = .string SB
  | 2, v, _ => v = .slice A2 n4 c2
  | 3, v, _ => v = .string SB
  | 4, v, _ => v = .bool true
  | 5, v, _ => v = .bool true
  | 6, v, _ => v = .int .i64 er
  | 7, v, _ => v = .int .i64 er
  | 8, v, _ => v = .bool true
  | 9, v, _ => v = .bool true
  | 10, v, _ => v = .bool true
  | 11, v, _ => v = .agg CP
  | 12, v, _ => v = .agg CP
  | 13, v, _ => v = .pointer (some ⟨gT, 0, none⟩)
  | 14, v, _ => v = .pointer (some ⟨gT, 0, none⟩)
  | 15, v, _ => v = .bool s1
  | 16, v, _ => v = .bool my
  | 17, v, _ => v = .agg CP
  | 18, v, _ => v = .pointer (some ⟨gT, 0, none⟩)
  | 19, v, _ => v = .pointer (some ⟨gT, 0, none⟩)
  | 20, v, _ => v = .bool s1
  | 21, v, _ => v = .bool my
  | 22, v, _ => v = .bool true
  | 23, v, _ => v = .bool true
  | 24, v, _ => v = .bool true
  | 25, v, _ => v = .agg CP
  | 26, v, _ => v = .agg CP
  | 27, v, _ => v = .agg CQ
  | 28, v, _ => v = .agg CQ
  | 29, v, _ => v = .bool sm
  | 30, v, _ => v = .agg CP
  | 31, v, _ => v = .agg CQ
  | 32, v, _ => v = .bool sm
  | 33, v, _ => v = .bool true
  | 34, v, _ => v = .bool true
  | 35, v, _ => v = .bool true
  | 36, v, _ => v = .agg CP
  | 37, v, _ => v = .agg CP
  | 38, v, _ => v = .agg CP
  | 39, v, _ => v = .agg CP
  | 40, v, _ => v = .bool true
  | 41, v, _ => v = .bool true
  | 42, v, _ => v = .bool true
  | 43, v, _ => v = .bool true
  | 44, v, _ => v = .bool true
  | 45, v, _ => v = .bool true
  | _, _, _ => True
theorem vbV.keep (g0 g1 gT : Nat) (CP CQ : Array Value) (A1 A2 : Option Addr) (n4 c1 c2 : Nat) (er : Int) (my sm s1 : Bool) (SB : ByteArray) (i : Nat) (v : Value) (w w' : World) (hb : Below w.heap.size w w') (h : vbV g0 g1 gT CP CQ A1 A2 n4 c1 c2 er my sm s1 SB i v w) : vbV g0 g1 gT CP CQ A1 A2 n4 c1 c2 er my sm s1 SB i v w' := by
  unfold vbV at h ⊢
  split at h <;> exact h
def vbT : List (Option Nat) := [none, none, none, none, none, none, some 45, none, none, none, none, none, none, none, none, none, none, none, none, none, none, none, none, none, none, none, none, none, none, none, none, none, none, none, none, none, none, some 0, some 1, some 2, some 3, some 4, some 5, some 6, some 7, some 8, some 9, some 10, some 11, some 12, some 13, some 14, some 15, some 16, some 17, some 18, some 19, some 20, some 21, some 22, some 23, some 24, some 25, some 26, some 27, some 28, some 29, some 30, some 31, some 32, some 33, some 34, some 35, some 36, some 37, some 38, some 39, some 40, some 41, some 42, some 43, some 44]
set_option maxRecDepth 100000 in
set_option maxHeartbeats 8000000 in
theorem lays_walk {K : World → Prop} (F : IcF K) (l1 l2 : List Value) (s1 s2 : Bool) (b1 b2 : List Int) (p : Ms) (A : Option Addr) (n c : Nat) (xs : List Int) (q : Ms) (A' : Option Addr) (n' c' : Nat) (ys : List Int) (w : World) (hk : K w) (e1 : l1.length = 17) (e2 : l2.length = 17) (h1 : chkC.AddrC l1.toArray s1 b1) (h2 : chkC.AddrC l2.toArray s2 b2)
    (hp : p.Ok) (hx : Nums .u8 w w.heap.size A n xs) (yx : ∀ x ∈ xs, Byte x) (hnc : n ≤ c) (hq : q.Ok) (hy : Nums .u8 w w.heap.size A' n' ys) (yy : ∀ x ∈ ys, Byte x) :
    Calls Try.prog 3 #[.agg (msV p A n c), .agg (msV q A' n' c'), .agg (l1 ++ l2).toArray] w (Ret w (.bool true)) := by
  have E1 := Lib.hid e1
  have U1 := Lib.hid (show (Try.prog.info? 29).map (·.size) = some l1.length by rw [e1]; exact addr_infoI)
  have U2 := Lib.hid (show (Try.prog.info? 29).map (·.size) = some l2.length by rw [e2]; exact addr_infoI)
  have I1 := Lib.hid (show (Try.prog.info? 29).map (·.size) = some l1.toArray.size by rw [h1.size]; exact addr_infoI)
  have I2 := Lib.hid (show (Try.prog.info? 29).map (·.size) = some l2.toArray.size by rw [h2.size]; exact addr_infoI)
  obtain ⟨W0, hW0⟩ : ∃ W, W = w.alloc (.cells (msV p A n c) 26) := ⟨_, rfl⟩
  obtain ⟨W1, hW1⟩ : ∃ W, W = W0.alloc (.cells (msV q A' n' c') 26) := ⟨_, rfl⟩
  obtain ⟨W, hW⟩ : ∃ W, W = W1.alloc (.cells (l1 ++ l2).toArray 30) := ⟨_, rfl⟩
  have z0 : W0.heap.size = w.heap.size + 1 := by rw [hW0, alloc_size]
  have z1 : W1.heap.size = w.heap.size + 2 := by rw [hW1, alloc_size, z0]
  have z2 : W.heap.size = w.heap.size + 3 := by rw [hW, alloc_size, z1]
  have B0 : Below w.heap.size w W0 := by rw [hW0]; exact alloc_below _ _
  have B1 : Below W0.heap.size W0 W1 := by rw [hW1]; exact alloc_below _ _
  have B2 : Below W1.heap.size W1 W := by rw [hW]; exact alloc_below _ _
  have HB_W := Lib.hid (show Below w.heap.size w W from (B0.trans (B1.mono (by omega))).trans (B2.mono (by omega)))
  have RP_W := Lib.hid (show W.heap[w.heap.size]? = some (.cells (msV p A n c) 26 (0, 0)) by rw [B2.block _ (by omega), B1.block _ (by omega), hW0]; exact heap_alloc_new _ _)
  have RQ_W := Lib.hid (show W.heap[w.heap.size + 1]? = some (.cells (msV q A' n' c') 26 (0, 0)) by rw [B2.block _ (by omega), hW1, ← z0]; exact heap_alloc_new _ _)
  have RT_W := Lib.hid (show W.heap[w.heap.size + 2]? = some (.cells (l1 ++ l2).toArray 30 (0, 0)) by rw [hW, ← z1]; exact heap_alloc_new _ _)
  have IP := Lib.hid (msC p A n c).info
  have IQ := Lib.hid (msC q A' n' c').info
  have F0 := Lib.hid (fun w' => far_any p A n c w')
  have F1 := Lib.hid (fun w' => far_any q A' n' c' w')
  have TH := Lib.hid (fun w' => theirs_any p A n c w')
  have TQ := Lib.hid (fun w' => theirs_any q A' n' c' w')
  have AL0 := Lib.hid (fun (w' : World) (h : Below w.heap.size w w') => alive_any F w' (F.keep w w' hk h))
  have XX := fun (w' : World) (h : Below w.heap.size w w') => (hx.below h).more h.size
  have XY := fun (w' : World) (h : Below w.heap.size w w') => (hy.below h).more h.size
  have QP1 := Lib.hid (fun (w' : World) (h : w'.heap[w.heap.size + 2]? = some (.cells (l1 ++ l2).toArray 30 (0, 0))) => (show ∀ j v, l1.toArray[j]? = some v → w'.cell? ⟨w.heap.size + 2, 0 + j, none⟩ = some v from fun j v hv => (two_row e1 h).1 j v (by simpa using hv)))
  have QP2 := Lib.hid (fun (w' : World) (h : w'.heap[w.heap.size + 2]? = some (.cells (l1 ++ l2).toArray 30 (0, 0))) => (show ∀ j v, l2.toArray[j]? = some v → w'.cell? ⟨w.heap.size + 2, 17 + j, none⟩ = some v from fun j v hv => (two_row e1 h).2 j v (by simpa using hv)))
  have QS := Lib.hid (fun (w' : World) (h : w'.heap[w.heap.size + 2]? = some (.cells (l1 ++ l2).toArray 30 (0, 0))) => (show w'.cell? ⟨w.heap.size + 2, 0, none⟩ = some (.bool s1) from QP1.out w' h 0 _ h1.six))
  obtain ⟨f0, hf0⟩ : ∃ f0, decide (3000 < n) = f0 := ⟨_, rfl⟩
  obtain ⟨f1, hf1⟩ : ∃ f1, decide (3000 < n') = f1 := ⟨_, rfl⟩
  rw [hf0] at F0
  rw [hf1] at F1
  cases f0
  rotate_left
  · generalize msV p A n c = CP at *
    generalize msV q A' n' c' = CQ at *
    generalize (l1 ++ l2).toArray = CT at *
    clear F hk hp hx yx hnc hq hy yy XX XY hf0 hf1 z2 B0 B1 B2 h1 h2 TH TQ QP1 QP2 QS
    go_enter Try.func3, Try.ntmps3
    try simp only [List.append_eq, List.cons_append, List.nil_append]
    go_upto_region 1 with fail
    rw [← hW0, ← hW1, ← hW]
    try rw [z0]
    try rw [z1]
    clear hW0 hW1 hW z0 z1
    go_wp2_with (first
      | go_skip
      | (with_reducible refine atC.at_load 26 3 ?_; refine wpList_load_rowG (by kernel_rfl) 26 (.tmp 3) rfl (w.heap.size) (by kernel_rfl) _ _ _ _ RP_W.out Try.underlying26 rfl IP.out ?_)
      | (go_at_call 8; (with_reducible refine (F0.out _).mono ?_); rintro e w2 ⟨rfl, BB⟩
         have HB_w2 := Lib.hid (HB_W.out.trans (BB.mono HB_W.out.size))
         have RT_w2 := Lib.hid ((BB.block _ (lt_of_rowI RT_W.out)).trans RT_W.out)
         have RP_w2 := Lib.hid ((BB.block _ (lt_of_rowI RP_W.out)).trans RP_W.out)
         have RQ_w2 := Lib.hid ((BB.block _ (lt_of_rowI RQ_W.out)).trans RQ_W.out)
         clear BB)
      | (go_at_call 9; (refine (AL0.out _ HB_w2.out).mono ?_); rintro e w5 ⟨rfl, BB⟩
         have HB_w5 := Lib.hid (HB_w2.out.trans (BB.mono HB_w2.out.size))
         clear BB))
    go_ret
    exact ⟨rfl, HB_w5.out⟩
  cases f1
  rotate_left
  · generalize msV p A n c = CP at *
    generalize msV q A' n' c' = CQ at *
    generalize (l1 ++ l2).toArray = CT at *
    clear F hk hp hx yx hnc hq hy yy XX XY hf0 hf1 z2 B0 B1 B2 h1 h2 TH TQ QP1 QP2 QS
    go_enter Try.func3, Try.ntmps3
    try simp only [List.append_eq, List.cons_append, List.nil_append]
    go_upto_region 1 with fail
    rw [← hW0, ← hW1, ← hW]
    try rw [z0]
    try rw [z1]
    clear hW0 hW1 hW z0 z1
    go_wp2_with (first
      | go_skip
      | (with_reducible refine atC.at_load 26 3 ?_; refine wpList_load_rowG (by kernel_rfl) 26 (.tmp 3) rfl (w.heap.size) (by kernel_rfl) _ _ _ _ RP_W.out Try.underlying26 rfl IP.out ?_)
      | (with_reducible refine atC.at_load 26 4 ?_; refine wpList_load_rowG (by kernel_rfl) 26 (.tmp 4) rfl (w.heap.size + 1) (by kernel_rfl) _ _ _ _ RQ_w2.out Try.underlying26 rfl IQ.out ?_)
      | (go_at_call 8; (with_reducible refine (F0.out _).mono ?_); rintro e w2 ⟨rfl, BB⟩
         have HB_w2 := Lib.hid (HB_W.out.trans (BB.mono HB_W.out.size))
         have RT_w2 := Lib.hid ((BB.block _ (lt_of_rowI RT_W.out)).trans RT_W.out)
         have RP_w2 := Lib.hid ((BB.block _ (lt_of_rowI RP_W.out)).trans RP_W.out)
         have RQ_w2 := Lib.hid ((BB.block _ (lt_of_rowI RQ_W.out)).trans RQ_W.out)
         clear BB)
      | (go_at_call 8; (with_reducible refine (F1.out _).mono ?_); rintro e w3 ⟨rfl, BB⟩
         have HB_w3 := Lib.hid (HB_w2.out.trans (BB.mono HB_w2.out.size))
         have RT_w3 := Lib.hid ((BB.block _ (lt_of_rowI RT_w2.out)).trans RT_w2.out)
         have RP_w3 := Lib.hid ((BB.block _ (lt_of_rowI RP_w2.out)).trans RP_w2.out)
         have RQ_w3 := Lib.hid ((BB.block _ (lt_of_rowI RQ_w2.out)).trans RQ_w2.out)
         clear BB)
      | (go_at_call 9; (refine (AL0.out _ HB_w3.out).mono ?_); rintro e w5 ⟨rfl, BB⟩
         have HB_w5 := Lib.hid (HB_w3.out.trans (BB.mono HB_w3.out.size))
         clear BB))
    go_ret
    exact ⟨rfl, HB_w5.out⟩
  have hf := of_decide_eq_false hf0
  have hf' := of_decide_eq_false hf1
  have LC0 := Lib.hid (fun (w' : World) (h : Below w.heap.size w w') => F.lay l1.toArray l2.toArray s1 s2 b1 b2 p A n c xs w' (F.keep w w' hk h) h1 h2 hp (XX w' h) yx hnc (by omega))
  have LR := Lib.hid (fun (w' : World) (h : Below w.heap.size w w') => rlay_any l1.toArray l2.toArray s1 s2 b1 b2 p A n c xs w' h1 h2 hp (XX w' h) yx)
  have CM0 := Lib.hid (fun (w' : World) (h : Below w.heap.size w w') => F.may p A n c s1 xs w' (F.keep w w' hk h) hp (XX w' h) yx hnc (by omega))
  have DM0 := Lib.hid (fun (w' : World) (h : Below w.heap.size w w') => rmay_any p A n c s1 xs w' (XX w' h) yx)
  have CS0 := Lib.hid (fun (w' : World) (h : Below w.heap.size w w') => F.same p q A A' n c n' c' xs ys w' (F.keep w w' hk h) (XX w' h) (XY w' h) yx yy (by omega) (by omega))
  have CT0 := Lib.hid (fun (w' : World) (h : Below w.heap.size w w') => (show Calls Try.prog 15 #[.agg (msV p A n c), .agg (msV p A n c)] w' (Ret w' (.bool true)) by
    have h9 := F.same p p A A n c n c xs xs w' (F.keep w w' hk h) (XX w' h) (XX w' h) yx yx (by omega) (by omega)
    rw [sameM_self] at h9
    exact h9))
  have DS0 := Lib.hid (fun (w' : World) (h : Below w.heap.size w w') => rsame_any p q A A' n c n' c' xs ys w' (XX w' h) (XY w' h) yx yy)
  generalize mayM p n s1 = my at *
  generalize sameM p xs q ys = sm at *
  generalize laysE p n s1 = er at *
  obtain ⟨LL, hLL⟩ : ∃ L, L = laysL s1 s2 b1 b2 p xs := ⟨_, rfl⟩
  simp only [← hLL] at LC0 LR
  obtain ⟨n4, hn4⟩ : ∃ k, LL.length = k := ⟨_, rfl⟩
  have HN4 := Lib.hid hn4
  obtain ⟨CP, hCP⟩ : ∃ C, C = msV p A n c := ⟨_, rfl⟩
  simp only [← hCP] at hW0 RP_W IP F0 TH LC0 LR CM0 DM0 CS0 CT0 DS0 ⊢
  obtain ⟨CQ, hCQ⟩ : ∃ C, C = msV q A' n' c' := ⟨_, rfl⟩
  simp only [← hCQ] at hW1 RQ_W IQ F1 TQ CS0 DS0 ⊢
  obtain ⟨CT, hCT⟩ : ∃ C, C = (l1 ++ l2).toArray := ⟨_, rfl⟩
  rw [← hCT] at hW ⊢
  clear F hk hp hx yx hnc hq hy yy XX XY hf0 hf1 z2 B0 B1 B2 h1 h2 hLL hn4 hCP hCQ hCT hf hf'
  go_enter Try.func3, Try.ntmps3
  try simp only [List.append_eq, List.cons_append, List.nil_append]
  go_upto_region 1 with fail
  rw [← hW0, ← hW1, ← hW]
  try rw [z0]
  try rw [z1]
  clear hW0 hW1 hW z0 z1
  go_upto_region 3 with (first
    | go_skip
    | (with_reducible refine atC.at_load 26 3 ?_; refine wpList_load_rowG (by kernel_rfl) 26 (.tmp 3) rfl (w.heap.size) (by kernel_rfl) _ _ _ _ RP_W.out Try.underlying26 rfl IP.out ?_)
    | (with_reducible refine atC.at_load 26 4 ?_; refine wpList_load_rowG (by kernel_rfl) 26 (.tmp 4) rfl (w.heap.size + 1) (by kernel_rfl) _ _ _ _ RQ_w2.out Try.underlying26 rfl IQ.out ?_)
    | (go_at_call 8; (with_reducible refine (F0.out _).mono ?_); rintro e w2 ⟨rfl, BB⟩
       have HB_w2 := Lib.hid (HB_W.out.trans (BB.mono HB_W.out.size))
       have RT_w2 := Lib.hid ((BB.block _ (lt_of_rowI RT_W.out)).trans RT_W.out)
       have RP_w2 := Lib.hid ((BB.block _ (lt_of_rowI RP_W.out)).trans RP_W.out)
       have RQ_w2 := Lib.hid ((BB.block _ (lt_of_rowI RQ_W.out)).trans RQ_W.out)
       clear BB)
    | (go_at_call 8; (with_reducible refine (F1.out _).mono ?_); rintro e w3 ⟨rfl, BB⟩
       have HB_w3 := Lib.hid (HB_w2.out.trans (BB.mono HB_w2.out.size))
       have RT_w3 := Lib.hid ((BB.block _ (lt_of_rowI RT_w2.out)).trans RT_w2.out)
       have RP_w3 := Lib.hid ((BB.block _ (lt_of_rowI RP_w2.out)).trans RP_w2.out)
       have RQ_w3 := Lib.hid ((BB.block _ (lt_of_rowI RQ_w2.out)).trans RQ_w2.out)
       clear BB))
  clear F0 F1 RT_W RP_W RQ_W RT_w2 RP_w2 RQ_w2 HB_w2
  have KP := Lib.hid (fun (w' : World) (h : Gr w3 w') => (Below.block h _ (lt_of_rowI RP_w3.out)).trans RP_w3.out)
  have Q1 := Lib.hid (fun (w' : World) (h : Gr w3 w') => QP1.out w' ((Below.block h _ (lt_of_rowI RT_w3.out)).trans RT_w3.out))
  have Q2 := Lib.hid (fun (w' : World) (h : Gr w3 w') => QP2.out w' ((Below.block h _ (lt_of_rowI RT_w3.out)).trans RT_w3.out))
  have LC := Lib.hid (fun (w' : World) (h : Gr w3 w') => LC0.out w' (HB_w3.out.trans (Below.mono h HB_w3.out.size)))
  refine with_act fun a0 ha0 => ?_
  have hl : vaT.length = a0.tmps.size := by rw [ha0]; rfl
  have k3 : a0.tmps[3]?.getD undef = .pointer (some ⟨(w.heap.size), 0, none⟩) := by rw [ha0]; rfl
  have k5 : a0.tmps[5]?.getD undef = .pointer (some ⟨(w.heap.size + 2), 0, none⟩) := by rw [ha0]; rfl
  refine wp_region_vals (by kernel_rfl) vaT (by kernel_rfl) (by kernel_rfl) hl (fun i => undef) (by rw [ha0]; rfl) (Gr w3) (vaV (w.heap.size) (w.heap.size + 2) n4 CP l1.toArray l2.toArray er LL (w3.heap.size)) (show Gr _ _ from (Below.refl _ _).drew) (vaV.keep _ _ _ _ _ _ _ _ _) ⟨?_, ?_, ?_, ?_, ?_, ?_, ?_, ?_, ?_, ?_, ?_, ?_, trivial⟩ ?_
  · refine step_plain [] (by kernel_rfl) rfl fun us w' hG hV => ?_
    have o3 := (frame_old2 (us := us) (a := a0) (show (vaT[3]?).join = none from rfl)).trans k3
    have hg1 := (KP.out w' hG)
    generalize frame vaT a0 us = fr at *
    exact load_ok 26 3 rfl ((w.heap.size)) o3 _ _ (0, 0) _ hg1 Try.underlying26 rfl IP.out hG rfl
  · refine step_plain [0] (by kernel_rfl) rfl fun us w' hG hV => ?_
    have e0 : us 0 = .agg CP := hV 0 (by simp)
    have v0 := (frame_at2 (us := us) hl (show (vaT[19]?).join = some 0 from rfl)).trans e0
    generalize frame vaT a0 us = fr at *
    exact call_ok (f := 11) (args := #[.agg CP]) (by go_simp) ((TH.out w').mono fun e w'' h => ⟨_, h.1, hG.below h.2, h.2, rfl⟩)
  · refine step_plain [] (by kernel_rfl) rfl fun us w' hG hV => ?_
    have o5 := (frame_old2 (us := us) (a := a0) (show (vaT[5]?).join = none from rfl)).trans k5
    generalize frame vaT a0 us = fr at *
    exact val_ok (v := .pointer (some ⟨(w.heap.size + 2), 0, none⟩)) (w' := w') (by go_simp) hG (Below.refl _ _) rfl
  · refine step_plain [2] (by kernel_rfl) rfl fun us w' hG hV => ?_
    have e2 : us 2 = .pointer (some ⟨(w.heap.size + 2), 0, none⟩) := hV 2 (by simp)
    have v2 := (frame_at2 (us := us) hl (show (vaT[21]?).join = some 2 from rfl)).trans e2
    have hg1 := (Q1.out w' hG)
    generalize frame vaT a0 us = fr at *
    exact loadp_I 29 21 rfl ((w.heap.size + 2)) 0 v2 _ _ hg1 Try.underlying29 rfl I1.out hG rfl
  · refine step_plain [] (by kernel_rfl) rfl fun us w' hG hV => ?_
    have o5 := (frame_old2 (us := us) (a := a0) (show (vaT[5]?).join = none from rfl)).trans k5
    generalize frame vaT a0 us = fr at *
    exact val_ok (v := .pointer (some ⟨(w.heap.size + 2), 17, none⟩)) (w' := w') (by go_simp) hG (Below.refl _ _) rfl
  · refine step_plain [4] (by kernel_rfl) rfl fun us w' hG hV => ?_
    have e4 : us 4 = .pointer (some ⟨(w.heap.size + 2), 17, none⟩) := hV 4 (by simp)
    have v4 := (frame_at2 (us := us) hl (show (vaT[23]?).join = some 4 from rfl)).trans e4
    have hg1 := (Q2.out w' hG)
    generalize frame vaT a0 us = fr at *
    exact loadp_I 29 23 rfl ((w.heap.size + 2)) 17 v4 _ _ hg1 Try.underlying29 rfl I2.out hG rfl
  · refine step_plain [1, 3, 5] (by kernel_rfl) rfl fun us w' hG hV => ?_
    have e1 : us 1 = .agg CP := hV 1 (by simp)
    have v1 := (frame_at2 (us := us) hl (show (vaT[20]?).join = some 1 from rfl)).trans e1
    have e3 : us 3 = .agg l1.toArray := hV 3 (by simp)
    have v3 := (frame_at2 (us := us) hl (show (vaT[22]?).join = some 3 from rfl)).trans e3
    have e5 : us 5 = .agg l2.toArray := hV 5 (by simp)
    have v5 := (frame_at2 (us := us) hl (show (vaT[24]?).join = some 5 from rfl)).trans e5
    generalize frame vaT a0 us = fr at *
    exact call_ok (f := 10) (args := #[.agg CP, .agg l1.toArray, .agg l2.toArray]) (by go_simp) ((LC.out w' hG).mono fun e w'' ⟨A', n', c', h1, h2, h3⟩ => by obtain rfl : n' = n4 := h2.len.symm.trans HN4.out; exact ⟨_, h1, hG.below h3, h3, A', c', rfl, h2.less hG.size⟩)
  · refine step_plain [6] (by kernel_rfl) rfl fun us w' hG hV => ?_
    obtain ⟨A6, c6, e6, O6⟩ := (show ∃ A' c', us 6 = .tuple #[.slice A' n4 c', .int .i64 er] ∧ Own .u8 5 w' (w3.heap.size) (.slice A' n4 c') LL from hV 6 (by simp))
    have v6 := (frame_at2 (us := us) hl (show (vaT[25]?).join = some 6 from rfl)).trans e6
    generalize frame vaT a0 us = fr at *
    exact val_ok (v := .tuple #[.slice A6 n4 c6, .int .i64 er]) (w' := w') (by go_simp) hG (Below.refl _ _) ⟨A6, c6, rfl, O6⟩
  · refine step_plain [7] (by kernel_rfl) rfl fun us w' hG hV => ?_
    obtain ⟨A7, c7, e7, O7⟩ := (show ∃ A' c', us 7 = .tuple #[.slice A' n4 c', .int .i64 er] ∧ Own .u8 5 w' (w3.heap.size) (.slice A' n4 c') LL from hV 7 (by simp))
    have v7 := (frame_at2 (us := us) hl (show (vaT[18]?).join = some 7 from rfl)).trans e7
    generalize frame vaT a0 us = fr at *
    exact val_ok (v := .slice A7 n4 c7) (w' := w') (by go_simp) hG (Below.refl _ _) ⟨A7, c7, rfl, O7⟩
  · refine step_plain [7] (by kernel_rfl) rfl fun us w' hG hV => ?_
    obtain ⟨A7, c7, e7, O7⟩ := (show ∃ A' c', us 7 = .tuple #[.slice A' n4 c', .int .i64 er] ∧ Own .u8 5 w' (w3.heap.size) (.slice A' n4 c') LL from hV 7 (by simp))
    have v7 := (frame_at2 (us := us) hl (show (vaT[18]?).join = some 7 from rfl)).trans e7
    generalize frame vaT a0 us = fr at *
    exact val_ok (v := .int .i64 er) (w' := w') (by go_simp) hG (Below.refl _ _) rfl
  · refine step_plain [8] (by kernel_rfl) rfl fun us w' hG hV => ?_
    obtain ⟨A8, c8, e8, O8⟩ := (show ∃ A' c', us 8 = .slice A' n4 c' ∧ Own .u8 5 w' (w3.heap.size) (.slice A' n4 c') LL from hV 8 (by simp))
    have v8 := (frame_at2 (us := us) hl (show (vaT[26]?).join = some 8 from rfl)).trans e8
    generalize frame vaT a0 us = fr at *
    exact val_ok (v := .slice A8 n4 c8) (w' := w') (by go_simp) hG (Below.refl _ _) ⟨A8, c8, rfl, O8⟩
  · refine step_plain [9] (by kernel_rfl) rfl fun us w' hG hV => ?_
    have e9 : us 9 = .int .i64 er := hV 9 (by simp)
    have v9 := (frame_at2 (us := us) hl (show (vaT[27]?).join = some 9 from rfl)).trans e9
    generalize frame vaT a0 us = fr at *
    exact val_ok (v := .int .i64 er) (w' := w') (by go_simp) hG (Below.refl _ _) rfl
  · intro us w4 hG hV
    obtain ⟨A1, c1, e10, O10⟩ := (show ∃ A' c', us 10 = .slice A' n4 c' ∧ Own .u8 5 w4 (w3.heap.size) (.slice A' n4 c') LL from hV 10 (by decide))
    have e11 : us 11 = .int .i64 er := hV 11 (by decide)
    subst ha0
    simp only [frame, vaT, fill]
    rw [e10, e11]
    have HG4 := Lib.hid hG
    have N1 := Lib.hid O10.nums
    clear hV hl hG k3 k5 e10 e11 O10
    have BB := HG4.out
    have HB_w4 := Lib.hid (HB_w3.out.trans (BB.mono HB_w3.out.size))
    have RT_w4 := Lib.hid ((BB.block _ (lt_of_rowI RT_w3.out)).trans RT_w3.out)
    have RP_w4 := Lib.hid ((BB.block _ (lt_of_rowI RP_w3.out)).trans RP_w3.out)
    have RQ_w4 := Lib.hid ((BB.block _ (lt_of_rowI RQ_w3.out)).trans RQ_w3.out)
    clear BB
    clear KP Q1 Q2 LC LC0 HG4 RP_w3 RQ_w3 RT_w3
    go_upto_region 5 with (first
      | (with_reducible refine atC.at_load 29 30 ?_; refine pkC.wpList_load_partG (by kernel_rfl) 29 (.tmp 30) rfl (w.heap.size + 2) 0 (by kernel_rfl) l1 _ (two_row E1.out RT_w4.out).1 Try.underlying29 rfl U1.out ?_)
      | (with_reducible refine atC.at_load 29 32 ?_; refine pkC.wpList_load_partG (by kernel_rfl) 29 (.tmp 32) rfl (w.heap.size + 2) 17 (by kernel_rfl) l2 _ (two_row E1.out RT_w4.out).2 Try.underlying29 rfl U2.out ?_)
      | (with_reducible refine atC.at_load 26 3 ?_; refine wpList_load_rowG (by kernel_rfl) 26 (.tmp 3) rfl (w.heap.size) (by kernel_rfl) _ _ _ _ RP_w4.out Try.underlying26 rfl IP.out ?_)
      | (go_at_call 12; (refine (LR.out _ HB_w4.out).mono ?_); rintro e V ⟨A2, n2, c2, rfl, O2, BB⟩
         have HB_V := Lib.hid (HB_w4.out.trans (BB.mono HB_w4.out.size))
         have RT_V := Lib.hid ((BB.block _ (lt_of_rowI RT_w4.out)).trans RT_w4.out)
         have RP_V := Lib.hid ((BB.block _ (lt_of_rowI RP_w4.out)).trans RP_w4.out)
         have RQ_V := Lib.hid ((BB.block _ (lt_of_rowI RQ_w4.out)).trans RQ_w4.out)
         obtain rfl : n2 = n4 := O2.len.symm.trans HN4.out
         have N1v := Lib.hid ((N1.out.below BB).more BB.size)
         have N2v := Lib.hid O2.nums
         clear O2
         clear BB))
    clear N1 RT_w4 RP_w4 RQ_w4 LR
    obtain ⟨SB, hSB⟩ : ∃ S, S = strOfNums LL := ⟨_, rfl⟩
    have CV1 := Lib.hid (fun w' (h : Gr V w') => (show (convert 24 9 (.slice A1 n2 c1)).run Try.prog w' = .ok (.string SB) w' by rw [hSB]; exact run_string (N1v.out.below h) c1 24 5 9 Try.underlying24 Try.underlying5 Try.underlying9))
    have CV2 := Lib.hid (fun w' (h : Gr V w') => (show (convert 24 9 (.slice A2 n2 c2)).run Try.prog w' = .ok (.string SB) w' by rw [hSB]; exact run_string (N2v.out.below h) c2 24 5 9 Try.underlying24 Try.underlying5 Try.underlying9))
    have GV := Lib.hid (fun (w' : World) (h : Gr V w') => HB_V.out.trans (Below.mono h HB_V.out.size))
    have KP := Lib.hid (fun (w' : World) (h : Gr V w') => (Below.block h _ (lt_of_rowI RP_V.out)).trans RP_V.out)
    have KQ := Lib.hid (fun (w' : World) (h : Gr V w') => (Below.block h _ (lt_of_rowI RQ_V.out)).trans RQ_V.out)
    have K6 := Lib.hid (fun (w' : World) (h : Gr V w') => QS.out w' ((Below.block h _ (lt_of_rowI RT_V.out)).trans RT_V.out))
    have CM := Lib.hid (fun w' (h : Gr V w') => CM0.out w' (GV.out w' h))
    have DM := Lib.hid (fun w' (h : Gr V w') => DM0.out w' (GV.out w' h))
    have CS := Lib.hid (fun w' (h : Gr V w') => CS0.out w' (GV.out w' h))
    have CS1 := Lib.hid (fun w' (h : Gr V w') => CT0.out w' (GV.out w' h))
    have DS := Lib.hid (fun w' (h : Gr V w') => DS0.out w' (GV.out w' h))
    have AL := Lib.hid (fun w' (h : Gr V w') => AL0.out w' (GV.out w' h))
    clear hSB N1v N2v GV CM0 DM0 CS0 CT0 DS0 AL0 RP_V RQ_V RT_V QP1 QP2 QS HN4
    refine with_act fun a0 ha0 => ?_
    have hl : vbT.length = a0.tmps.size := by rw [ha0]; rfl
    have k3 : a0.tmps[3]?.getD undef = .pointer (some ⟨(w.heap.size), 0, none⟩) := by rw [ha0]; rfl
    have k4 : a0.tmps[4]?.getD undef = .pointer (some ⟨(w.heap.size + 1), 0, none⟩) := by rw [ha0]; rfl
    have k5 : a0.tmps[5]?.getD undef = .pointer (some ⟨(w.heap.size + 2), 0, none⟩) := by rw [ha0]; rfl
    have k7 : a0.tmps[7]?.getD undef = .slice A1 n2 c1 := by rw [ha0]; rfl
    have k8 : a0.tmps[8]?.getD undef = .int .i64 er := by rw [ha0]; rfl
    have k9 : a0.tmps[9]?.getD undef = .slice A2 n2 c2 := by rw [ha0]; rfl
    have k10 : a0.tmps[10]?.getD undef = .int .i64 er := by rw [ha0]; rfl
    refine wp_region_vals (by kernel_rfl) vbT (by kernel_rfl) (by kernel_rfl) hl (fun i => if i = 45 then .bool false else undef) (by rw [ha0]; rfl) (Gr V) (vbV (w.heap.size) (w.heap.size + 1) (w.heap.size + 2) CP CQ A1 A2 n2 c1 c2 er my sm s1 SB) (show Gr _ _ from (Below.refl _ _).drew) (vbV.keep _ _ _ _ _ _ _ _ _ _ _ _ _ _ _) ⟨?_, ?_, ?_, ?_, ?_, ?_, ?_, ?_, ?_, ?_, ?_, ?_, ?_, ?_, ?_, ?_, ?_, ?_, ?_, ?_, ?_, ?_, ?_, ?_, ?_, ?_, ?_, ?_, ?_, ?_, ?_, ?_, ?_, ?_, ?_, ?_, ?_, ?_, ?_, ?_, ?_, ?_, ?_, ?_, ?_, ?_, trivial⟩ ?_
    · refine step_plain [] (by kernel_rfl) rfl fun us w' hG hV => ?_
      have o7 := (frame_old2 (us := us) (a := a0) (show (vbT[7]?).join = none from rfl)).trans k7
      generalize frame vbT a0 us = fr at *
      exact val_ok (v := .slice A1 n2 c1) (w' := w') (by go_simp) hG (Below.refl _ _) rfl
    · refine step_plain [0] (by kernel_rfl) rfl fun us w' hG hV => ?_
      have e0 : us 0 = .slice A1 n2 c1 := hV 0 (by simp)
      have v0 := (frame_at2 (us := us) hl (show (vbT[37]?).join = some 0 from rfl)).trans e0
      have hcv := CV1.out w' hG
      generalize frame vbT a0 us = fr at *
      exact val_ok (v := .string SB) (w' := w') (by go_simp) hG (Below.refl _ _) rfl
    · refine step_plain [] (by kernel_rfl) rfl fun us w' hG hV => ?_
      have o9 := (frame_old2 (us := us) (a := a0) (show (vbT[9]?).join = none from rfl)).trans k9
      generalize frame vbT a0 us = fr at *
      exact val_ok (v := .slice A2 n2 c2) (w' := w') (by go_simp) hG (Below.refl _ _) rfl
    · refine step_plain [2] (by kernel_rfl) rfl fun us w' hG hV => ?_
      have e2 : us 2 = .slice A2 n2 c2 := hV 2 (by simp)
      have v2 := (frame_at2 (us := us) hl (show (vbT[39]?).join = some 2 from rfl)).trans e2
      have hcv := CV2.out w' hG
      generalize frame vbT a0 us = fr at *
      exact val_ok (v := .string SB) (w' := w') (by go_simp) hG (Below.refl _ _) rfl
    · refine step_plain [1, 3] (by kernel_rfl) rfl fun us w' hG hV => ?_
      have e1 : us 1 = .string SB := hV 1 (by simp)
      have v1 := (frame_at2 (us := us) hl (show (vbT[38]?).join = some 1 from rfl)).trans e1
      have e3 : us 3 = .string SB := hV 3 (by simp)
      have v3 := (frame_at2 (us := us) hl (show (vbT[40]?).join = some 3 from rfl)).trans e3
      generalize frame vbT a0 us = fr at *
      exact val_ok (v := .bool true) (w' := w') (seq_selfI (S := SB) (a := fr) rfl (by simpa only [Act.eval, Array.getD_eq_getD_getElem?] using v1) (by simpa only [Act.eval, Array.getD_eq_getD_getElem?] using v3)) hG (Below.refl _ _) rfl
    · refine step_plain [4] (by kernel_rfl) rfl fun us w' hG hV => ?_
      have e4 : us 4 = .bool true := hV 4 (by simp)
      have v4 := (frame_at2 (us := us) hl (show (vbT[41]?).join = some 4 from rfl)).trans e4
      generalize frame vbT a0 us = fr at *
      exact val_ok (v := .bool true) (w' := w') (by go_simp) hG (Below.refl _ _) rfl
    · refine step_guard [5] (by kernel_rfl) (j := 5) (t := 42) (b := true) rfl (by simp) rfl hl rfl (fun v w h => h) fun us w' hG hV => ?_
      have o8 := (frame_old2 (us := us) (a := a0) (show (vbT[8]?).join = none from rfl)).trans k8
      generalize frame vbT a0 us = fr at *
      exact val_ok (v := .int .i64 er) (w' := w') (by go_simp) hG (Below.refl _ _) rfl
    · refine step_guard [5] (by kernel_rfl) (j := 5) (t := 42) (b := true) rfl (by simp) rfl hl rfl (fun v w h => h) fun us w' hG hV => ?_
      have o10 := (frame_old2 (us := us) (a := a0) (show (vbT[10]?).join = none from rfl)).trans k10
      generalize frame vbT a0 us = fr at *
      exact val_ok (v := .int .i64 er) (w' := w') (by go_simp) hG (Below.refl _ _) rfl
    · refine step_guard [5, 6, 7] (by kernel_rfl) (j := 5) (t := 42) (b := true) rfl (by simp) rfl hl rfl (fun v w h => h) fun us w' hG hV => ?_
      have e6 : us 6 = .int .i64 er := hV 6 (by simp)
      have v6 := (frame_at2 (us := us) hl (show (vbT[43]?).join = some 6 from rfl)).trans e6
      have e7 : us 7 = .int .i64 er := hV 7 (by simp)
      have v7 := (frame_at2 (us := us) hl (show (vbT[44]?).join = some 7 from rfl)).trans e7
      generalize frame vbT a0 us = fr at *
      exact val_ok (v := .bool true) (w' := w') (by go_simp) hG (Below.refl _ _) rfl
    · refine step_plain [5, 8] (by kernel_rfl) rfl fun us w' hG hV => ?_
      have e5 : us 5 = .bool true := hV 5 (by simp)
      have v5 := (frame_at2 (us := us) hl (show (vbT[42]?).join = some 5 from rfl)).trans e5
      have e8 : us 8 = .bool true := hV 8 (by simp)
      have v8 := (frame_at2 (us := us) hl (show (vbT[45]?).join = some 8 from rfl)).trans e8
      generalize frame vbT a0 us = fr at *
      exact val_ok (v := .bool true) (w' := w') (by go_simp) hG (Below.refl _ _) rfl
    · refine step_plain [9] (by kernel_rfl) rfl fun us w' hG hV => ?_
      have e9 : us 9 = .bool true := hV 9 (by simp)
      have v9 := (frame_at2 (us := us) hl (show (vbT[46]?).join = some 9 from rfl)).trans e9
      generalize frame vbT a0 us = fr at *
      exact val_ok (v := .bool true) (w' := w') (by go_simp) hG (Below.refl _ _) rfl
    · refine step_guard [10] (by kernel_rfl) (j := 10) (t := 47) (b := true) rfl (by simp) rfl hl rfl (fun v w h => h) fun us w' hG hV => ?_
      have o3 := (frame_old2 (us := us) (a := a0) (show (vbT[3]?).join = none from rfl)).trans k3
      have hg1 := (KP.out w' hG)
      generalize frame vbT a0 us = fr at *
      exact load_ok 26 3 rfl ((w.heap.size)) o3 _ _ (0, 0) _ hg1 Try.underlying26 rfl IP.out hG rfl
    · refine step_guard [10, 11] (by kernel_rfl) (j := 10) (t := 47) (b := true) rfl (by simp) rfl hl rfl (fun v w h => h) fun us w' hG hV => ?_
      have e11 : us 11 = .agg CP := hV 11 (by simp)
      have v11 := (frame_at2 (us := us) hl (show (vbT[48]?).join = some 11 from rfl)).trans e11
      generalize frame vbT a0 us = fr at *
      exact call_ok (f := 11) (args := #[.agg CP]) (by go_simp) ((TH.out w').mono fun e w'' h => ⟨_, h.1, hG.below h.2, h.2, rfl⟩)
    · refine step_guard [10] (by kernel_rfl) (j := 10) (t := 47) (b := true) rfl (by simp) rfl hl rfl (fun v w h => h) fun us w' hG hV => ?_
      have o5 := (frame_old2 (us := us) (a := a0) (show (vbT[5]?).join = none from rfl)).trans k5
      generalize frame vbT a0 us = fr at *
      exact val_ok (v := .pointer (some ⟨(w.heap.size + 2), 0, none⟩)) (w' := w') (by go_simp) hG (Below.refl _ _) rfl
    · refine step_guard [10, 13] (by kernel_rfl) (j := 10) (t := 47) (b := true) rfl (by simp) rfl hl rfl (fun v w h => h) fun us w' hG hV => ?_
      have e13 : us 13 = .pointer (some ⟨(w.heap.size + 2), 0, none⟩) := hV 13 (by simp)
      have v13 := (frame_at2 (us := us) hl (show (vbT[50]?).join = some 13 from rfl)).trans e13
      generalize frame vbT a0 us = fr at *
      exact val_ok (v := .pointer (some ⟨(w.heap.size + 2), 0, none⟩)) (w' := w') (by go_simp) hG (Below.refl _ _) rfl
    · refine step_guard [10, 14] (by kernel_rfl) (j := 10) (t := 47) (b := true) rfl (by simp) rfl hl rfl (fun v w h => h) fun us w' hG hV => ?_
      have e14 : us 14 = .pointer (some ⟨(w.heap.size + 2), 0, none⟩) := hV 14 (by simp)
      have v14 := (frame_at2 (us := us) hl (show (vbT[51]?).join = some 14 from rfl)).trans e14
      have hc := K6.out w' hG
      generalize frame vbT a0 us = fr at *
      exact val_ok (v := .bool s1) (w' := w') (by go_simp) hG (Below.refl _ _) rfl
    · refine step_guard [10, 12, 15] (by kernel_rfl) (j := 10) (t := 47) (b := true) rfl (by simp) rfl hl rfl (fun v w h => h) fun us w' hG hV => ?_
      have e12 : us 12 = .agg CP := hV 12 (by simp)
      have v12 := (frame_at2 (us := us) hl (show (vbT[49]?).join = some 12 from rfl)).trans e12
      have e15 : us 15 = .bool s1 := hV 15 (by simp)
      have v15 := (frame_at2 (us := us) hl (show (vbT[52]?).join = some 15 from rfl)).trans e15
      generalize frame vbT a0 us = fr at *
      exact call_ok (f := 13) (args := #[.agg CP, .bool s1]) (by go_simp) ((CM.out w' hG).mono fun e w'' h => ⟨_, h.1, hG.below h.2, h.2, rfl⟩)
    · refine step_guard [10] (by kernel_rfl) (j := 10) (t := 47) (b := true) rfl (by simp) rfl hl rfl (fun v w h => h) fun us w' hG hV => ?_
      have o3 := (frame_old2 (us := us) (a := a0) (show (vbT[3]?).join = none from rfl)).trans k3
      have hg1 := (KP.out w' hG)
      generalize frame vbT a0 us = fr at *
      exact load_ok 26 3 rfl ((w.heap.size)) o3 _ _ (0, 0) _ hg1 Try.underlying26 rfl IP.out hG rfl
    · refine step_guard [10] (by kernel_rfl) (j := 10) (t := 47) (b := true) rfl (by simp) rfl hl rfl (fun v w h => h) fun us w' hG hV => ?_
      have o5 := (frame_old2 (us := us) (a := a0) (show (vbT[5]?).join = none from rfl)).trans k5
      generalize frame vbT a0 us = fr at *
      exact val_ok (v := .pointer (some ⟨(w.heap.size + 2), 0, none⟩)) (w' := w') (by go_simp) hG (Below.refl _ _) rfl
    · refine step_guard [10, 18] (by kernel_rfl) (j := 10) (t := 47) (b := true) rfl (by simp) rfl hl rfl (fun v w h => h) fun us w' hG hV => ?_
      have e18 : us 18 = .pointer (some ⟨(w.heap.size + 2), 0, none⟩) := hV 18 (by simp)
      have v18 := (frame_at2 (us := us) hl (show (vbT[55]?).join = some 18 from rfl)).trans e18
      generalize frame vbT a0 us = fr at *
      exact val_ok (v := .pointer (some ⟨(w.heap.size + 2), 0, none⟩)) (w' := w') (by go_simp) hG (Below.refl _ _) rfl
    · refine step_guard [10, 19] (by kernel_rfl) (j := 10) (t := 47) (b := true) rfl (by simp) rfl hl rfl (fun v w h => h) fun us w' hG hV => ?_
      have e19 : us 19 = .pointer (some ⟨(w.heap.size + 2), 0, none⟩) := hV 19 (by simp)
      have v19 := (frame_at2 (us := us) hl (show (vbT[56]?).join = some 19 from rfl)).trans e19
      have hc := K6.out w' hG
      generalize frame vbT a0 us = fr at *
      exact val_ok (v := .bool s1) (w' := w') (by go_simp) hG (Below.refl _ _) rfl
    · refine step_guard [10, 17, 20] (by kernel_rfl) (j := 10) (t := 47) (b := true) rfl (by simp) rfl hl rfl (fun v w h => h) fun us w' hG hV => ?_
      have e17 : us 17 = .agg CP := hV 17 (by simp)
      have v17 := (frame_at2 (us := us) hl (show (vbT[54]?).join = some 17 from rfl)).trans e17
      have e20 : us 20 = .bool s1 := hV 20 (by simp)
      have v20 := (frame_at2 (us := us) hl (show (vbT[57]?).join = some 20 from rfl)).trans e20
      generalize frame vbT a0 us = fr at *
      exact call_ok (f := 14) (args := #[.agg CP, .bool s1]) (by go_simp) ((DM.out w' hG).mono fun e w'' h => ⟨_, h.1, hG.below h.2, h.2, rfl⟩)
    · refine step_guard [10, 16, 21] (by kernel_rfl) (j := 10) (t := 47) (b := true) rfl (by simp) rfl hl rfl (fun v w h => h) fun us w' hG hV => ?_
      have e16 : us 16 = .bool my := hV 16 (by simp)
      have v16 := (frame_at2 (us := us) hl (show (vbT[53]?).join = some 16 from rfl)).trans e16
      have e21 : us 21 = .bool my := hV 21 (by simp)
      have v21 := (frame_at2 (us := us) hl (show (vbT[58]?).join = some 21 from rfl)).trans e21
      generalize frame vbT a0 us = fr at *
      exact val_ok (v := .bool true) (w' := w') (by go_simp) hG (Below.refl _ _) rfl
    · refine step_plain [10, 22] (by kernel_rfl) rfl fun us w' hG hV => ?_
      have e10 : us 10 = .bool true := hV 10 (by simp)
      have v10 := (frame_at2 (us := us) hl (show (vbT[47]?).join = some 10 from rfl)).trans e10
      have e22 : us 22 = .bool true := hV 22 (by simp)
      have v22 := (frame_at2 (us := us) hl (show (vbT[59]?).join = some 22 from rfl)).trans e22
      generalize frame vbT a0 us = fr at *
      exact val_ok (v := .bool true) (w' := w') (by go_simp) hG (Below.refl _ _) rfl
    · refine step_plain [23] (by kernel_rfl) rfl fun us w' hG hV => ?_
      have e23 : us 23 = .bool true := hV 23 (by simp)
      have v23 := (frame_at2 (us := us) hl (show (vbT[60]?).join = some 23 from rfl)).trans e23
      generalize frame vbT a0 us = fr at *
      exact val_ok (v := .bool true) (w' := w') (by go_simp) hG (Below.refl _ _) rfl
    · refine step_guard [24] (by kernel_rfl) (j := 24) (t := 61) (b := true) rfl (by simp) rfl hl rfl (fun v w h => h) fun us w' hG hV => ?_
      have o3 := (frame_old2 (us := us) (a := a0) (show (vbT[3]?).join = none from rfl)).trans k3
      have hg1 := (KP.out w' hG)
      generalize frame vbT a0 us = fr at *
      exact load_ok 26 3 rfl ((w.heap.size)) o3 _ _ (0, 0) _ hg1 Try.underlying26 rfl IP.out hG rfl
    · refine step_guard [24, 25] (by kernel_rfl) (j := 24) (t := 61) (b := true) rfl (by simp) rfl hl rfl (fun v w h => h) fun us w' hG hV => ?_
      have e25 : us 25 = .agg CP := hV 25 (by simp)
      have v25 := (frame_at2 (us := us) hl (show (vbT[62]?).join = some 25 from rfl)).trans e25
      generalize frame vbT a0 us = fr at *
      exact call_ok (f := 11) (args := #[.agg CP]) (by go_simp) ((TH.out w').mono fun e w'' h => ⟨_, h.1, hG.below h.2, h.2, rfl⟩)
    · refine step_guard [24] (by kernel_rfl) (j := 24) (t := 61) (b := true) rfl (by simp) rfl hl rfl (fun v w h => h) fun us w' hG hV => ?_
      have o4 := (frame_old2 (us := us) (a := a0) (show (vbT[4]?).join = none from rfl)).trans k4
      have hg1 := (KQ.out w' hG)
      generalize frame vbT a0 us = fr at *
      exact load_ok 26 4 rfl ((w.heap.size + 1)) o4 _ _ (0, 0) _ hg1 Try.underlying26 rfl IQ.out hG rfl
    · refine step_guard [24, 27] (by kernel_rfl) (j := 24) (t := 61) (b := true) rfl (by simp) rfl hl rfl (fun v w h => h) fun us w' hG hV => ?_
      have e27 : us 27 = .agg CQ := hV 27 (by simp)
      have v27 := (frame_at2 (us := us) hl (show (vbT[64]?).join = some 27 from rfl)).trans e27
      generalize frame vbT a0 us = fr at *
      exact call_ok (f := 11) (args := #[.agg CQ]) (by go_simp) ((TQ.out w').mono fun e w'' h => ⟨_, h.1, hG.below h.2, h.2, rfl⟩)
    · refine step_guard [24, 26, 28] (by kernel_rfl) (j := 24) (t := 61) (b := true) rfl (by simp) rfl hl rfl (fun v w h => h) fun us w' hG hV => ?_
      have e26 : us 26 = .agg CP := hV 26 (by simp)
      have v26 := (frame_at2 (us := us) hl (show (vbT[63]?).join = some 26 from rfl)).trans e26
      have e28 : us 28 = .agg CQ := hV 28 (by simp)
      have v28 := (frame_at2 (us := us) hl (show (vbT[65]?).join = some 28 from rfl)).trans e28
      generalize frame vbT a0 us = fr at *
      exact call_ok (f := 15) (args := #[.agg CP, .agg CQ]) (by go_simp) ((CS.out w' hG).mono fun e w'' h => ⟨_, h.1, hG.below h.2, h.2, rfl⟩)
    · refine step_guard [24] (by kernel_rfl) (j := 24) (t := 61) (b := true) rfl (by simp) rfl hl rfl (fun v w h => h) fun us w' hG hV => ?_
      have o3 := (frame_old2 (us := us) (a := a0) (show (vbT[3]?).join = none from rfl)).trans k3
      have hg1 := (KP.out w' hG)
      generalize frame vbT a0 us = fr at *
      exact load_ok 26 3 rfl ((w.heap.size)) o3 _ _ (0, 0) _ hg1 Try.underlying26 rfl IP.out hG rfl
    · refine step_guard [24] (by kernel_rfl) (j := 24) (t := 61) (b := true) rfl (by simp) rfl hl rfl (fun v w h => h) fun us w' hG hV => ?_
      have o4 := (frame_old2 (us := us) (a := a0) (show (vbT[4]?).join = none from rfl)).trans k4
      have hg1 := (KQ.out w' hG)
      generalize frame vbT a0 us = fr at *
      exact load_ok 26 4 rfl ((w.heap.size + 1)) o4 _ _ (0, 0) _ hg1 Try.underlying26 rfl IQ.out hG rfl
    · refine step_guard [24, 30, 31] (by kernel_rfl) (j := 24) (t := 61) (b := true) rfl (by simp) rfl hl rfl (fun v w h => h) fun us w' hG hV => ?_
      have e30 : us 30 = .agg CP := hV 30 (by simp)
      have v30 := (frame_at2 (us := us) hl (show (vbT[67]?).join = some 30 from rfl)).trans e30
      have e31 : us 31 = .agg CQ := hV 31 (by simp)
      have v31 := (frame_at2 (us := us) hl (show (vbT[68]?).join = some 31 from rfl)).trans e31
      generalize frame vbT a0 us = fr at *
      exact call_ok (f := 16) (args := #[.agg CP, .agg CQ]) (by go_simp) ((DS.out w' hG).mono fun e w'' h => ⟨_, h.1, hG.below h.2, h.2, rfl⟩)
    · refine step_guard [24, 29, 32] (by kernel_rfl) (j := 24) (t := 61) (b := true) rfl (by simp) rfl hl rfl (fun v w h => h) fun us w' hG hV => ?_
      have e29 : us 29 = .bool sm := hV 29 (by simp)
      have v29 := (frame_at2 (us := us) hl (show (vbT[66]?).join = some 29 from rfl)).trans e29
      have e32 : us 32 = .bool sm := hV 32 (by simp)
      have v32 := (frame_at2 (us := us) hl (show (vbT[69]?).join = some 32 from rfl)).trans e32
      generalize frame vbT a0 us = fr at *
      exact val_ok (v := .bool true) (w' := w') (by go_simp) hG (Below.refl _ _) rfl
    · refine step_plain [24, 33] (by kernel_rfl) rfl fun us w' hG hV => ?_
      have e24 : us 24 = .bool true := hV 24 (by simp)
      have v24 := (frame_at2 (us := us) hl (show (vbT[61]?).join = some 24 from rfl)).trans e24
      have e33 : us 33 = .bool true := hV 33 (by simp)
      have v33 := (frame_at2 (us := us) hl (show (vbT[70]?).join = some 33 from rfl)).trans e33
      generalize frame vbT a0 us = fr at *
      exact val_ok (v := .bool true) (w' := w') (by go_simp) hG (Below.refl _ _) rfl
    · refine step_plain [34] (by kernel_rfl) rfl fun us w' hG hV => ?_
      have e34 : us 34 = .bool true := hV 34 (by simp)
      have v34 := (frame_at2 (us := us) hl (show (vbT[71]?).join = some 34 from rfl)).trans e34
      generalize frame vbT a0 us = fr at *
      exact val_ok (v := .bool true) (w' := w') (by go_simp) hG (Below.refl _ _) rfl
    · refine step_guard [35] (by kernel_rfl) (j := 35) (t := 72) (b := true) rfl (by simp) rfl hl rfl (fun v w h => h) fun us w' hG hV => ?_
      have o3 := (frame_old2 (us := us) (a := a0) (show (vbT[3]?).join = none from rfl)).trans k3
      have hg1 := (KP.out w' hG)
      generalize frame vbT a0 us = fr at *
      exact load_ok 26 3 rfl ((w.heap.size)) o3 _ _ (0, 0) _ hg1 Try.underlying26 rfl IP.out hG rfl
    · refine step_guard [35, 36] (by kernel_rfl) (j := 35) (t := 72) (b := true) rfl (by simp) rfl hl rfl (fun v w h => h) fun us w' hG hV => ?_
      have e36 : us 36 = .agg CP := hV 36 (by simp)
      have v36 := (frame_at2 (us := us) hl (show (vbT[73]?).join = some 36 from rfl)).trans e36
      generalize frame vbT a0 us = fr at *
      exact call_ok (f := 11) (args := #[.agg CP]) (by go_simp) ((TH.out w').mono fun e w'' h => ⟨_, h.1, hG.below h.2, h.2, rfl⟩)
    · refine step_guard [35] (by kernel_rfl) (j := 35) (t := 72) (b := true) rfl (by simp) rfl hl rfl (fun v w h => h) fun us w' hG hV => ?_
      have o3 := (frame_old2 (us := us) (a := a0) (show (vbT[3]?).join = none from rfl)).trans k3
      have hg1 := (KP.out w' hG)
      generalize frame vbT a0 us = fr at *
      exact load_ok 26 3 rfl ((w.heap.size)) o3 _ _ (0, 0) _ hg1 Try.underlying26 rfl IP.out hG rfl
    · refine step_guard [35, 38] (by kernel_rfl) (j := 35) (t := 72) (b := true) rfl (by simp) rfl hl rfl (fun v w h => h) fun us w' hG hV => ?_
      have e38 : us 38 = .agg CP := hV 38 (by simp)
      have v38 := (frame_at2 (us := us) hl (show (vbT[75]?).join = some 38 from rfl)).trans e38
      generalize frame vbT a0 us = fr at *
      exact call_ok (f := 11) (args := #[.agg CP]) (by go_simp) ((TH.out w').mono fun e w'' h => ⟨_, h.1, hG.below h.2, h.2, rfl⟩)
    · refine step_guard [35, 37, 39] (by kernel_rfl) (j := 35) (t := 72) (b := true) rfl (by simp) rfl hl rfl (fun v w h => h) fun us w' hG hV => ?_
      have e37 : us 37 = .agg CP := hV 37 (by simp)
      have v37 := (frame_at2 (us := us) hl (show (vbT[74]?).join = some 37 from rfl)).trans e37
      have e39 : us 39 = .agg CP := hV 39 (by simp)
      have v39 := (frame_at2 (us := us) hl (show (vbT[76]?).join = some 39 from rfl)).trans e39
      generalize frame vbT a0 us = fr at *
      exact call_ok (f := 15) (args := #[.agg CP, .agg CP]) (by go_simp) ((CS1.out w' hG).mono fun e w'' h => ⟨_, h.1, hG.below h.2, h.2, rfl⟩)
    · refine step_plain [35, 40] (by kernel_rfl) rfl fun us w' hG hV => ?_
      have e35 : us 35 = .bool true := hV 35 (by simp)
      have v35 := (frame_at2 (us := us) hl (show (vbT[72]?).join = some 35 from rfl)).trans e35
      have e40 : us 40 = .bool true := hV 40 (by simp)
      have v40 := (frame_at2 (us := us) hl (show (vbT[77]?).join = some 40 from rfl)).trans e40
      generalize frame vbT a0 us = fr at *
      exact val_ok (v := .bool true) (w' := w') (by go_simp) hG (Below.refl _ _) rfl
    · refine step_plain [41] (by kernel_rfl) rfl fun us w' hG hV => ?_
      have e41 : us 41 = .bool true := hV 41 (by simp)
      have v41 := (frame_at2 (us := us) hl (show (vbT[78]?).join = some 41 from rfl)).trans e41
      generalize frame vbT a0 us = fr at *
      exact val_ok (v := .bool true) (w' := w') (by go_simp) hG (Below.refl _ _) rfl
    · refine step_guard [42] (by kernel_rfl) (j := 42) (t := 79) (b := true) rfl (by simp) rfl hl rfl (fun v w h => h) fun us w' hG hV => ?_
      generalize frame vbT a0 us = fr at *
      exact call_ok (f := 9) (args := #[]) (by go_simp) ((AL.out w' hG).mono fun e w'' h => ⟨_, h.1, hG.below h.2, h.2, rfl⟩)
    · refine step_plain [42, 43] (by kernel_rfl) rfl fun us w' hG hV => ?_
      have e42 : us 42 = .bool true := hV 42 (by simp)
      have v42 := (frame_at2 (us := us) hl (show (vbT[79]?).join = some 42 from rfl)).trans e42
      have e43 : us 43 = .bool true := hV 43 (by simp)
      have v43 := (frame_at2 (us := us) hl (show (vbT[80]?).join = some 43 from rfl)).trans e43
      generalize frame vbT a0 us = fr at *
      exact val_ok (v := .bool true) (w' := w') (by go_simp) hG (Below.refl _ _) rfl
    · refine step_plain [44] (by kernel_rfl) rfl fun us w' hG hV => ?_
      have e44 : us 44 = .bool true := hV 44 (by simp)
      have v44 := (frame_at2 (us := us) hl (show (vbT[81]?).join = some 44 from rfl)).trans e44
      generalize frame vbT a0 us = fr at *
      exact val_ok (v := .bool true) (w' := w') (by go_simp) hG (Below.refl _ _) rfl
    · intro us w5 hG hV
      have e9 : us 45 = .bool true := hV 45 (by decide)
      subst ha0
      simp only [frame, vbT, fill]
      rw [e9]
      have HG := Lib.hid hG
      clear hV hl hG k3 k4 k5 k7 k8 k9 k10 e9
      go_wp2_with fail
      go_ret
      exact ⟨rfl, HB_V.out.trans (Below.mono HG.out HB_V.out.size)⟩
end Go.Proofs.Ytmbfgolcinniiaa.icC

/-
  The walk of IcmpAgain.
-/
namespace Go.Proofs.Ytmbfgolcinniiaa.icC
open Go.ChangeShapes Go.WideShapes Go.ChangeAt Go.RowKit
open Go.Proofs.Ytmbfgolcinniiaa.memC Go.Proofs.Ytmbfgolcinniiaa.genC Go.Proofs.Ytmbfgolcinniiaa.butC Go.Proofs.Ytmbfgolcinniiaa.freeC Go.Proofs.Ytmbfgolcinniiaa.adC
open Go.Proofs.Ytmbfgolcinniiaa.pkC (OwnE)
set_option linter.unusedVariables false
set_option maxRecDepth 100000 in
set_option maxHeartbeats 8000000 in
theorem again_walk {K : World → Prop} (F : IcF K) (l1 l2 : List Value) (s1 s2 : Bool) (b1 b2 : List Int) (A0 : Option Addr) (n0 c0 : Nat) (bs : List Int) (w : World) (hk : K w) (e1 : l1.length = 17) (e2 : l2.length = 17) (h1 : chkC.AddrC l1.toArray s1 b1) (h2 : chkC.AddrC l2.toArray s2 b2)
    (hb : Nums .u8 w w.heap.size A0 n0 bs) (hy : ∀ x ∈ bs, Byte x) (hnc : n0 ≤ c0) (hcm : c0 ≤ 9223372036854775807) : Calls Try.prog 7 #[.slice A0 n0 c0, .agg (l1 ++ l2).toArray] w (Ret w (.bool true)) := by
  have hzc := zeroCs
  have E1 := Lib.hid e1
  have U1 := Lib.hid (show (Try.prog.info? 29).map (·.size) = some l1.length by rw [e1]; exact addr_infoI)
  have U2 := Lib.hid (show (Try.prog.info? 29).map (·.size) = some l2.length by rw [e2]; exact addr_infoI)
  have AL := Lib.hid (fun (w' : World) (h : Below w.heap.size w w') => alive_any F w' (F.keep w w' hk h))
  obtain ⟨W, hW⟩ : ∃ W, W = w.alloc (.cells (l1 ++ l2).toArray 30) := ⟨_, rfl⟩
  have HB_W := Lib.hid (show Below w.heap.size w W by rw [hW]; exact alloc_below _ _)
  have RT_W := Lib.hid (show W.heap[w.heap.size]? = some (.cells (l1 ++ l2).toArray 30 (0, 0)) by rw [hW]; exact heap_alloc_new _ _)
  have QS := Lib.hid (fun (w' : World) (h : w'.heap[w.heap.size]? = some (.cells (l1 ++ l2).toArray 30 (0, 0))) => (show w'.cell? ⟨w.heap.size, 0, none⟩ = some (.bool s1) from (two_row e1 h).1 0 _ (by simpa using h1.six)))
  obtain ⟨CT, hCT⟩ : ∃ C, C = (l1 ++ l2).toArray := ⟨_, rfl⟩
  by_cases h3 : 3000 < n0
  · have q3 : (n0 : Int) > 3000 := by omega
    have q3b : decide ((n0 : Int) > 3000) = true := decide_eq_true q3
    rw [← hCT] at hW ⊢
    clear hb hy hnc hcm h3 hCT h1 h2 e1 e2 hk F RT_W QS
    go_enter Try.func7, Try.ntmps7
    try simp only [List.append_eq, List.cons_append, List.nil_append]
    go_upto_region 1 with fail
    rw [← hW]
    clear hW
    go_wp2_with (first
      | (go_at_call 9; (refine (AL.out _ HB_W.out).mono ?_); rintro e w3 ⟨rfl, BB⟩
         have HB3 := Lib.hid (HB_W.out.trans (BB.mono HB_W.out.size))
         clear BB))
    go_ret
    exact ⟨rfl, HB3.out⟩
  have q3 : ¬ (n0 : Int) > 3000 := by omega
  have q3b : decide ((n0 : Int) > 3000) = false := decide_eq_false q3
  obtain ⟨R3, hR3⟩ : ∃ r, r = psI s1 (goodI s1 s2 b1 b2 bs) bs := ⟨_, rfl⟩
  have PC := Lib.hid (fun (w' : World) (h : Below w.heap.size w w') => F.parse l1.toArray l2.toArray s1 s2 b1 b2 A0 n0 c0 bs w' (F.keep w w' hk h) h1 h2 ((hb.below h).more h.size) hy hnc hcm (by omega))
  rw [← hR3] at PC
  obtain ⟨er, mR, XD⟩ := R3
  have IX := Lib.hid (fun (m : Ms) (A : Option Addr) (n c : Nat) => (msC m A n c).cinfo)
  have SX := Lib.hid (fun (m : Ms) (A : Option Addr) (n c : Nat) => ms_size zMs m none A 0 0 n c)
  have OX := Lib.hid (fun (m : Ms) (A : Option Addr) (n c : Nat) => ms_one m A n c)
  by_cases h0 : er = 0
  rotate_left
  · have hz : (mR, XD) = (zMs, []) := by
      have h9 := ps_bad (six := s1) (gd := goodI s1 s2 b1 b2 bs) (bs := bs) (by rw [← hR3]; exact h0)
      rw [← hR3] at h9
      exact h9
    obtain ⟨rfl, rfl⟩ := Prod.mk.inj hz
    have q0 := Lib.hid (show (er != 0) = true from bne_iff_ne.2 h0)
    have SM := Lib.hid (fun (w' : World) (h : Below w.heap.size w w') (A : Option Addr) (c : Nat) => (show Calls Try.prog 15 #[.agg (msV zMs A 0 c), .agg (msV zMs none 0 0)] w' (Ret w' (.bool true)) by
      have h9 := F.same zMs zMs A none 0 c 0 0 [] [] w' (F.keep w w' hk h) ⟨rfl, fun h => by omega⟩ (Nums.none_ 0) (by simp) (by simp) (by omega) (by omega)
      rw [sameM_self] at h9
      exact h9))
    have BZ := Lib.hid zCs_built
    obtain ⟨ZS, hZS⟩ : ∃ Z, Z = msV zMs none 0 0 := ⟨_, rfl⟩
    simp only [← hZS] at hzc SX SM BZ
    have HZ := Lib.hid hZS
    rw [← hCT] at hW ⊢
    clear hb hy hnc hcm h3 h1 h2 e1 e2 hk F hR3 hz h0 hZS hCT QS
    go_enter Try.func7, Try.ntmps7
    try simp only [List.append_eq, List.cons_append, List.nil_append]
    go_upto_region 1 with fail
    rw [← hW]
    clear hW
    go_upto_region 4 with (first
      | (with_reducible refine atC.at_load 29 19 ?_; refine pkC.wpList_load_partG (by kernel_rfl) 29 (.tmp 19) rfl (w.heap.size) 0 (by kernel_rfl) l1 _ (two_row E1.out RT_W.out).1 Try.underlying29 rfl U1.out ?_)
      | (with_reducible refine atC.at_load 29 21 ?_; refine pkC.wpList_load_partG (by kernel_rfl) 29 (.tmp 21) rfl (w.heap.size) 17 (by kernel_rfl) l2 _ (two_row E1.out RT_W.out).2 Try.underlying29 rfl U2.out ?_)
      | (go_at_call 17; (refine (PC.out W HB_W.out).mono ?_); rintro e w2 ⟨A2, n2, c2, rfl, O2, BB⟩
         obtain rfl : n2 = 0 := O2.len.symm
         have HB_w2 := Lib.hid (HB_W.out.trans (BB.mono HB_W.out.size))
         have RT_w2 := Lib.hid ((BB.block _ (lt_of_rowI RT_W.out)).trans RT_W.out)
         have OA_w2 := Lib.hid O2
         clear BB O2)
      | (refine wpList_store_row rfl 36 (.tmp 5) (.tmp 24) rfl w2.heap.size _ rfl rfl _ _ (heap_alloc_new _ _) (IX.out zMs A2 0 c2) (SX.out zMs A2 0 c2) (OX.out zMs A2 0 c2) ?_; rw [World.setRow_alloc_new]))
    have BA := alloc_below w2 (.cells (msV zMs A2 0 c2) 36)
    have R_g5 := Lib.hid (heap_alloc_new w2 (.cells (msV zMs A2 0 c2) 36))
    have HB_w3 := Lib.hid (HB_w2.out.trans (BA.mono HB_w2.out.size))
    have RT_w3 := Lib.hid ((BA.block _ (lt_of_rowI RT_w2.out)).trans RT_w2.out)
    have OA_w3 := Lib.hid (OA_w2.out.below BA)
    clear BA RT_w2 OA_w2 HB_w2
    obtain ⟨w3, hw3⟩ : ∃ q, q = w2.alloc (.cells (msV zMs A2 0 c2) 36) := ⟨_, rfl⟩
    simp only [← hw3] at R_g5 HB_w3 RT_w3 OA_w3 ⊢
    clear hw3
    generalize w2.heap.size = g5 at *
    clear RT_W HB_W PC q3 q3b hzc
    have q0 := q0.out
    have I5 := Lib.hid (IX.out zMs A2 0 c2)
    have SM3 := Lib.hid (SM.out w3 HB_w3.out A2 c2)
    generalize msV zMs A2 0 c2 = CX at *
    go_wp2_with (first
      | go_skip
      | (with_reducible refine atC.at_load 36 5 ?_; refine wpList_load_rowG (by kernel_rfl) 36 (.tmp 5) rfl (g5) (by kernel_rfl) _ _ _ _ R_g5.out Try.underlying36 rfl I5.out ?_)
      | (refine adC.wpList_zero rfl 36 rfl ZS BZ.out ?_)
      | (go_at_call 15; (refine SM3.out.mono ?_); rintro e w4 ⟨rfl, BB⟩
         have HB_w4 := Lib.hid (HB_w3.out.trans (BB.mono HB_w3.out.size))
         clear BB)
      | (go_at_call 9; (refine (AL.out _ HB_w4.out).mono ?_); rintro e w5 ⟨rfl, BB⟩
         have HB_w5 := Lib.hid (HB_w4.out.trans (BB.mono HB_w4.out.size))
         clear BB))
    go_ret
    exact ⟨rfl, HB_w5.out⟩
  subst h0
  obtain ⟨q1, q2, qy, q4, q5⟩ := againI h1 h2 hy hR3.symm
  obtain ⟨p1, p2, p3, p4, p5⟩ := laidI h1 h2 q1 q2 qy
  obtain ⟨n2, hn2⟩ : ∃ k, XD.length = k := ⟨_, rfl⟩
  rw [hn2] at p1 p3 p5 q4 q2
  have HN2 := Lib.hid hn2
  have YX := Lib.hid qy
  have LC := Lib.hid (fun (w' : World) (h : Below w.heap.size w w') (A : Option Addr) (c : Nat) (hx : Nums .u8 w' w'.heap.size A n2 XD) (hc : n2 ≤ c) => (show Calls Try.prog 10 #[.agg (msV mR A n2 c), .agg l1.toArray, .agg l2.toArray] w' (OwnE w' (laysL s1 s2 b1 b2 mR XD) 0) by
    have h9 := F.lay l1.toArray l2.toArray s1 s2 b1 b2 mR A n2 c XD w' (F.keep w w' hk h) h1 h2 q1 hx qy hc (by omega)
    rw [p1] at h9
    exact h9))
  obtain ⟨LL, hLL⟩ : ∃ L, L = laysL s1 s2 b1 b2 mR XD := ⟨_, rfl⟩
  simp only [← hLL] at LC
  rw [← hLL] at q5 p3 p4
  obtain ⟨n4, hn4⟩ : ∃ k, k = 8 + n2 := ⟨_, rfl⟩
  have HN4 := Lib.hid (show LL.length = n4 by rw [p3, hn4])
  have P2 := Lib.hid (fun (w' : World) (h : Below w.heap.size w w') (A : Option Addr) (c : Nat) (hx : Nums .u8 w' w'.heap.size A n4 LL) (hc : n4 ≤ c) (hm : c ≤ 9223372036854775807) => (show Calls Try.prog 17 #[.slice A n4 c, .agg l1.toArray, .agg l2.toArray] w' (PsM w' (0, mR, XD)) by
    have h9 := F.parse l1.toArray l2.toArray s1 s2 b1 b2 A n4 c LL w' (F.keep w w' hk h) h1 h2 hx p4 hc hm (by omega)
    rw [q5] at h9
    exact h9))
  have RC := Lib.hid (fun (w' : World) (h : Below w.heap.size w w') (A : Option Addr) (c : Nat) (hx : Nums .u8 w' w'.heap.size A n2 XD) (hc : n2 ≤ c) => F.reply mR A n2 c XD w' (F.keep w w' hk h) q1 hx qy hc (by omega))
  have MC := Lib.hid (fun (w' : World) (h : Below w.heap.size w w') (A : Option Addr) (c : Nat) (hx : Nums .u8 w' w'.heap.size A n2 XD) (hc : n2 ≤ c) => (show Calls Try.prog 13 #[.agg (msV mR A n2 c), .bool s1] w' (Ret w' (.bool true)) by
    have h9 := F.may mR A n2 c s1 XD w' (F.keep w w' hk h) q1 hx qy hc (by omega)
    rw [q4] at h9
    exact h9))
  have SM := Lib.hid (fun (w' : World) (h : Below w.heap.size w w') (A A' : Option Addr) (c c' : Nat) (hx : Nums .u8 w' w'.heap.size A n2 XD) (hx' : Nums .u8 w' w'.heap.size A' n2 XD) => (show Calls Try.prog 15 #[.agg (msV mR A n2 c), .agg (msV mR A' n2 c')] w' (Ret w' (.bool true)) by
    have h9 := F.same mR mR A A' n2 c n2 c' XD XD w' (F.keep w w' hk h) hx hx' qy qy (by omega) (by omega)
    rw [sameM_self] at h9
    exact h9))
  have HNB := Lib.hid (show n2 ≤ 1400 ∧ n4 = 8 + n2 from ⟨p5, hn4⟩)
  obtain ⟨ZS, hZS⟩ : ∃ Z, Z = msV zMs none 0 0 := ⟨_, rfl⟩
  simp only [← hZS] at hzc SX
  rw [← hCT] at hW ⊢
  clear hb hy hnc hcm h3 h1 h2 e1 e2 hk F hR3 hZS hCT q1 q2 qy q4 q5 p1 p2 p3 p4 p5 hn2 hLL hn4
  go_enter Try.func7, Try.ntmps7
  try simp only [List.append_eq, List.cons_append, List.nil_append]
  go_upto_region 1 with fail
  rw [← hW]
  clear hW
  go_upto_region 4 with (first
    | (with_reducible refine atC.at_load 29 19 ?_; refine pkC.wpList_load_partG (by kernel_rfl) 29 (.tmp 19) rfl (w.heap.size) 0 (by kernel_rfl) l1 _ (two_row E1.out RT_W.out).1 Try.underlying29 rfl U1.out ?_)
    | (with_reducible refine atC.at_load 29 21 ?_; refine pkC.wpList_load_partG (by kernel_rfl) 29 (.tmp 21) rfl (w.heap.size) 17 (by kernel_rfl) l2 _ (two_row E1.out RT_W.out).2 Try.underlying29 rfl U2.out ?_)
    | (go_at_call 17; (refine (PC.out W HB_W.out).mono ?_); rintro e w2 ⟨A2, n2', c2, rfl, O2, BB⟩
       obtain rfl : n2' = n2 := O2.len.symm.trans HN2.out
       have HB_w2 := Lib.hid (HB_W.out.trans (BB.mono HB_W.out.size))
       have RT_w2 := Lib.hid ((BB.block _ (lt_of_rowI RT_W.out)).trans RT_W.out)
       have OA_w2 := Lib.hid O2
       clear BB O2)
    | (refine wpList_store_row rfl 36 (.tmp 5) (.tmp 24) rfl w2.heap.size _ rfl rfl _ _ (heap_alloc_new _ _) (IX.out mR A2 n2' c2) (SX.out mR A2 n2' c2) (OX.out mR A2 n2' c2) ?_; rw [World.setRow_alloc_new]))
  have BA := alloc_below w2 (.cells (msV mR A2 n2' c2) 36)
  have R_g5 := Lib.hid (heap_alloc_new w2 (.cells (msV mR A2 n2' c2) 36))
  have HB_w3 := Lib.hid (HB_w2.out.trans (BA.mono HB_w2.out.size))
  have RT_w3 := Lib.hid ((BA.block _ (lt_of_rowI RT_w2.out)).trans RT_w2.out)
  have OA_w3 := Lib.hid (OA_w2.out.below BA)
  clear BA RT_w2 OA_w2 HB_w2
  obtain ⟨w3, hw3⟩ : ∃ q, q = w2.alloc (.cells (msV mR A2 n2' c2) 36) := ⟨_, rfl⟩
  simp only [← hw3] at R_g5 HB_w3 RT_w3 OA_w3 ⊢
  clear hw3
  generalize w2.heap.size = g5 at *
  clear RT_W HB_W PC q3 q3b
  have FM2 := Lib.hid (show n2' ≤ c2 ∧ c2 ≤ 9223372036854775807 by
    obtain ⟨A', c', e, g1, g2, -⟩ := OA_w3.out.form
    cases e
    unfold maxLen at g2
    have := HN2.out
    exact ⟨by omega, by omega⟩)
  have I5 := Lib.hid (IX.out mR A2 n2' c2)
  go_upto_region 6 with fail
  go_upto_region 7 with (first
    | (with_reducible refine atC.at_load 36 5 ?_; refine wpList_load_rowG (by kernel_rfl) 36 (.tmp 5) rfl (g5) (by kernel_rfl) _ _ _ _ R_g5.out Try.underlying36 rfl I5.out ?_)
    | (with_reducible refine atC.at_load 29 36 ?_; refine pkC.wpList_load_partG (by kernel_rfl) 29 (.tmp 36) rfl (w.heap.size) 0 (by kernel_rfl) l1 _ (two_row E1.out RT_w3.out).1 Try.underlying29 rfl U1.out ?_)
    | (with_reducible refine atC.at_load 29 38 ?_; refine pkC.wpList_load_partG (by kernel_rfl) 29 (.tmp 38) rfl (w.heap.size) 17 (by kernel_rfl) l2 _ (two_row E1.out RT_w3.out).2 Try.underlying29 rfl U2.out ?_)
    | (go_at_call 10; (refine (LC.out w3 HB_w3.out A2 c2 OA_w3.out.nums FM2.out.1).mono ?_); rintro e w4 ⟨A4, n4', c4, rfl, O4, BB⟩
       obtain rfl : n4' = n4 := O4.len.symm.trans HN4.out
       have R5_w4 := Lib.hid ((BB.block _ (lt_of_rowI R_g5.out)).trans R_g5.out)
       have HB_w4 := Lib.hid (HB_w3.out.trans (BB.mono HB_w3.out.size))
       have RT_w4 := Lib.hid ((BB.block _ (lt_of_rowI RT_w3.out)).trans RT_w3.out)
       have OA_w4 := Lib.hid (OA_w3.out.below BB)
       have OB_w4 := Lib.hid O4
       clear BB O4))
  have FM4 := Lib.hid (show n4' ≤ c4 ∧ c4 ≤ 9223372036854775807 by
    obtain ⟨A', c', e, g1, g2, -⟩ := OB_w4.out.form
    cases e
    unfold maxLen at g2
    have := HN4.out
    exact ⟨by omega, by omega⟩)
  clear R_g5 RT_w3 OA_w3 HB_w3 LC
  go_upto_region 8 with (first
    | (with_reducible refine atC.at_load 29 45 ?_; refine pkC.wpList_load_partG (by kernel_rfl) 29 (.tmp 45) rfl (w.heap.size) 0 (by kernel_rfl) l1 _ (two_row E1.out RT_w4.out).1 Try.underlying29 rfl U1.out ?_)
    | (with_reducible refine atC.at_load 29 47 ?_; refine pkC.wpList_load_partG (by kernel_rfl) 29 (.tmp 47) rfl (w.heap.size) 17 (by kernel_rfl) l2 _ (two_row E1.out RT_w4.out).2 Try.underlying29 rfl U2.out ?_)
    | (go_at_call 17; (refine (P2.out w4 HB_w4.out A4 c4 OB_w4.out.nums FM4.out.1 FM4.out.2).mono ?_); rintro e w6 ⟨A6, n6, c6, rfl, O6, BB⟩
       obtain rfl : n6 = n2' := O6.len.symm.trans HN2.out
       have HB_w6 := Lib.hid (HB_w4.out.trans (BB.mono HB_w4.out.size))
       have RT_w6 := Lib.hid ((BB.block _ (lt_of_rowI RT_w4.out)).trans RT_w4.out)
       have R5_w6 := Lib.hid ((BB.block _ (lt_of_rowI R5_w4.out)).trans R5_w4.out)
       have OA_w6 := Lib.hid (OA_w4.out.below BB)
       have OC_w6 := Lib.hid O6
       clear BB O6)
    | (refine wpList_store_row rfl 36 (.tmp 9) (.tmp 50) rfl w6.heap.size _ rfl rfl _ _ (heap_alloc_new _ _) (IX.out mR A6 n6 c6) (SX.out mR A6 n6 c6) (OX.out mR A6 n6 c6) ?_; rw [World.setRow_alloc_new]))
  have BA := alloc_below w6 (.cells (msV mR A6 n6 c6) 36)
  have R_g9 := Lib.hid (heap_alloc_new w6 (.cells (msV mR A6 n6 c6) 36))
  have HB_w7 := Lib.hid (HB_w6.out.trans (BA.mono HB_w6.out.size))
  have RT_w7 := Lib.hid ((BA.block _ (lt_of_rowI RT_w6.out)).trans RT_w6.out)
  have R5_w7 := Lib.hid ((BA.block _ (lt_of_rowI R5_w6.out)).trans R5_w6.out)
  have OA_w7 := Lib.hid (OA_w6.out.below BA)
  have OC_w7 := Lib.hid (OC_w6.out.below BA)
  clear BA RT_w6 R5_w6 OA_w6 OC_w6 HB_w6
  obtain ⟨w7, hw7⟩ : ∃ q, q = w6.alloc (.cells (msV mR A6 n6 c6) 36) := ⟨_, rfl⟩
  simp only [← hw7] at R_g9 HB_w7 RT_w7 R5_w7 OA_w7 OC_w7 ⊢
  clear hw7
  generalize w6.heap.size = g9 at *
  clear RT_w4 R5_w4 OA_w4 OB_w4 HB_w4 P2 FM4
  have I9 := Lib.hid (IX.out mR A6 n6 c6)
  go_upto_region 9 with (first
    | (with_reducible refine atC.at_load 36 5 ?_; refine wpList_load_rowG (by kernel_rfl) 36 (.tmp 5) rfl (g5) (by kernel_rfl) _ _ _ _ R5_w7.out Try.underlying36 rfl I5.out ?_)
    | (go_at_call 20; (refine (RC.out w7 HB_w7.out A2 c2 OA_w7.out.nums FM2.out.1).mono ?_); rintro e w8 ⟨A8, n8, c8, rfl, O8, BB⟩
       have R9_w8 := Lib.hid ((BB.block _ (lt_of_rowI R_g9.out)).trans R_g9.out)
       have HB_w8 := Lib.hid (HB_w7.out.trans (BB.mono HB_w7.out.size))
       have RT_w8 := Lib.hid ((BB.block _ (lt_of_rowI RT_w7.out)).trans RT_w7.out)
       have R5_w8 := Lib.hid ((BB.block _ (lt_of_rowI R5_w7.out)).trans R5_w7.out)
       have OA_w8 := Lib.hid (OA_w7.out.below BB)
       have OC_w8 := Lib.hid (OC_w7.out.below BB)
       have OD_w8 := Lib.hid O8
       clear BB O8)
    | (refine wpList_store_row rfl 36 (.tmp 11) (.tmp 55) rfl w8.heap.size _ rfl rfl _ _ (heap_alloc_new _ _) (IX.out (repM mR) A8 n8 c8) (SX.out (repM mR) A8 n8 c8) (OX.out (repM mR) A8 n8 c8) ?_; rw [World.setRow_alloc_new]))
  have BA := alloc_below w8 (.cells (msV (repM mR) A8 n8 c8) 36)
  have R_g11 := Lib.hid (heap_alloc_new w8 (.cells (msV (repM mR) A8 n8 c8) 36))
  have HB_V := Lib.hid (HB_w8.out.trans (BA.mono HB_w8.out.size))
  have RT_V := Lib.hid ((BA.block _ (lt_of_rowI RT_w8.out)).trans RT_w8.out)
  have R5_V := Lib.hid ((BA.block _ (lt_of_rowI R5_w8.out)).trans R5_w8.out)
  have R9_V := Lib.hid ((BA.block _ (lt_of_rowI R9_w8.out)).trans R9_w8.out)
  have OA_V := Lib.hid (OA_w8.out.below BA)
  have OC_V := Lib.hid (OC_w8.out.below BA)
  have OD_V := Lib.hid (OD_w8.out.below BA)
  clear BA RT_w8 R5_w8 R9_w8 OA_w8 OC_w8 OD_w8 HB_w8
  obtain ⟨V, hV⟩ : ∃ q, q = w8.alloc (.cells (msV (repM mR) A8 n8 c8) 36) := ⟨_, rfl⟩
  simp only [← hV] at R_g11 HB_V RT_V R5_V R9_V OA_V OC_V OD_V ⊢
  clear hV
  generalize w8.heap.size = g11 at *
  clear RT_w7 R5_w7 OA_w7 OC_w7 R_g9 HB_w7 RC hzc SX OX IX
  have p6 := QS.out V RT_V.out
  have MV := Lib.hid (MC.out V HB_V.out A2 c2 OA_V.out.nums FM2.out.1)
  have K5 := Lib.hid (fun (w' : World) (h : Gr V w') => (Below.block h _ (lt_of_rowI R5_V.out)).trans R5_V.out)
  have K9 := Lib.hid (fun (w' : World) (h : Gr V w') => (Below.block h _ (lt_of_rowI R9_V.out)).trans R9_V.out)
  have K11 := Lib.hid (fun (w' : World) (h : Gr V w') => (Below.block h _ (lt_of_rowI R_g11.out)).trans R_g11.out)
  have SV := Lib.hid (fun (w' : World) (h : Gr V w') => SM.out w' (HB_V.out.trans (Below.mono h HB_V.out.size)) A2 A6 c2 c6 (OA_V.out.below h).nums (OC_V.out.below h).nums)
  have ALV := Lib.hid (fun (w' : World) (h : Gr V w') => AL.out w' (HB_V.out.trans (Below.mono h HB_V.out.size)))
  have KK := Lib.hid (fun (w' : World) (h : Gr V w') => pkC.PkC.cell (K5.out w' h) (msC mR A2 n6 c2).ki)
  have R5V := R5_V
  clear MC SM AL R9_V OC_V RT_V QS HN4 R_g11 R5_V
  by_cases hk1 : mR.ki = 1
  rotate_left
  · have QB := Lib.hid (show decide (mR.ki = 1) = false from decide_eq_false hk1)
    have QK := Lib.hid (show (mR.ki == 1) = false from beq_eq_false_iff_ne.2 hk1)
    rw [QB.out]
    generalize msV mR A2 n6 c2 = CX at *
    generalize msV mR A6 n6 c6 = CY at *
    generalize mR.ki = ki at *
    clear hk1 K11 OD_V OA_V
    go_wp2_with (first
      | go_skip
      | (with_reducible refine atC.at_load 36 5 ?_; refine wpList_load_rowG (by kernel_rfl) 36 (.tmp 5) rfl (g5) (by kernel_rfl) _ _ _ _ R5V.out Try.underlying36 rfl I5.out ?_)
      | (go_at_call 13; (refine MV.out.mono ?_); rintro e w9 ⟨rfl, BB⟩
         have R5w := Lib.hid (K5.out w9 BB)
         have R9w := Lib.hid (K9.out w9 BB)
         have SVw := Lib.hid (SV.out w9 BB)
         have G9 := Lib.hid (show Gr V w9 from BB)
         clear BB)
      | (with_reducible refine atC.at_load 36 5 ?_; refine wpList_load_rowG (by kernel_rfl) 36 (.tmp 5) rfl (g5) (by kernel_rfl) _ _ _ _ R5w.out Try.underlying36 rfl I5.out ?_)
      | (with_reducible refine atC.at_load 36 9 ?_; refine wpList_load_rowG (by kernel_rfl) 36 (.tmp 9) rfl (g9) (by kernel_rfl) _ _ _ _ R9w.out Try.underlying36 rfl I9.out ?_)
      | (go_at_call 15; (refine SVw.out.mono ?_); rintro e w10 ⟨rfl, BB⟩
         have G10 := Lib.hid (show Gr V w10 from G9.out.trans (BB.mono G9.out.size))
         have kk := KK.out w10 G10.out
         have qk := QK.out
         clear BB)
      | (go_at_call 9; (refine (ALV.out w10 G10.out).mono ?_); rintro e w11 ⟨rfl, BB⟩
         have HB_w11 := Lib.hid ((HB_V.out.trans (Below.mono G10.out HB_V.out.size)).trans (BB.mono (Nat.le_trans HB_V.out.size (Below.size G10.out))))
         clear BB))
    go_ret
    exact ⟨rfl, HB_w11.out⟩
  have QB := Lib.hid (show decide (mR.ki = 1) = true from decide_eq_true hk1)
  have QK := Lib.hid (show (mR.ki == 1) = true from beq_iff_eq.2 hk1)
  have er1 : repM mR = ⟨2, 0, mR.id, mR.sq, 0⟩ := by unfold repM; rw [if_pos hk1]
  have er2 : repL mR XD = XD := by unfold repL; rw [if_pos hk1]
  rw [er1] at K11
  rw [er2] at OD_V
  rw [er1, QB.out]
  have KI := Lib.hid (fun (w' : World) (h : Gr V w') => pkC.PkC.cell (K5.out w' h) (msC mR A2 n6 c2).id)
  have KQ := Lib.hid (fun (w' : World) (h : Gr V w') => pkC.PkC.cell (K5.out w' h) (msC mR A2 n6 c2).sq)
  have KD := Lib.hid (fun (w' : World) (h : Gr V w') => pkC.PkC.cell (K5.out w' h) (msC mR A2 n6 c2).da)
  have JI := Lib.hid (fun (w' : World) (h : Gr V w') => pkC.PkC.cell (K11.out w' h) (msC ⟨2, 0, mR.id, mR.sq, 0⟩ A8 n8 c8).id)
  have JQ := Lib.hid (fun (w' : World) (h : Gr V w') => pkC.PkC.cell (K11.out w' h) (msC ⟨2, 0, mR.id, mR.sq, 0⟩ A8 n8 c8).sq)
  have JD := Lib.hid (fun (w' : World) (h : Gr V w') => pkC.PkC.cell (K11.out w' h) (msC ⟨2, 0, mR.id, mR.sq, 0⟩ A8 n8 c8).da)
  obtain ⟨SB, hSB⟩ : ∃ S, S = strOfNums XD := ⟨_, rfl⟩
  have CV1 := Lib.hid (fun w' (h : Gr V w') => (show (convert 24 9 (.slice A8 n8 c8)).run Try.prog w' = .ok (.string SB) w' by rw [hSB]; exact run_string (OD_V.out.below h).nums c8 24 5 9 Try.underlying24 Try.underlying5 Try.underlying9))
  have CV2 := Lib.hid (fun w' (h : Gr V w') => (show (convert 24 9 (.slice A2 n6 c2)).run Try.prog w' = .ok (.string SB) w' by rw [hSB]; exact run_string (OA_V.out.below h).nums c2 24 5 9 Try.underlying24 Try.underlying5 Try.underlying9))
  generalize msV mR A2 n6 c2 = CX at *
  generalize msV mR A6 n6 c6 = CY at *
  generalize mR.ki = ki at *
  generalize mR.id = id at *
  generalize mR.sq = sq at *
  clear hk1 K11 OD_V OA_V er1 er2 hSB
  go_wp2_with (first
    | go_skip
    | (with_reducible refine atC.at_load 36 5 ?_; refine wpList_load_rowG (by kernel_rfl) 36 (.tmp 5) rfl (g5) (by kernel_rfl) _ _ _ _ R5V.out Try.underlying36 rfl I5.out ?_)
    | (go_at_call 13; (refine MV.out.mono ?_); rintro e w9 ⟨rfl, BB⟩
       have R5w := Lib.hid (K5.out w9 BB)
       have R9w := Lib.hid (K9.out w9 BB)
       have SVw := Lib.hid (SV.out w9 BB)
       have G9 := Lib.hid (show Gr V w9 from BB)
       clear BB)
    | (with_reducible refine atC.at_load 36 5 ?_; refine wpList_load_rowG (by kernel_rfl) 36 (.tmp 5) rfl (g5) (by kernel_rfl) _ _ _ _ R5w.out Try.underlying36 rfl I5.out ?_)
    | (with_reducible refine atC.at_load 36 9 ?_; refine wpList_load_rowG (by kernel_rfl) 36 (.tmp 9) rfl (g9) (by kernel_rfl) _ _ _ _ R9w.out Try.underlying36 rfl I9.out ?_)
    | (go_at_call 15; (refine SVw.out.mono ?_); rintro e w10 ⟨rfl, BB⟩
       have G10 := Lib.hid (show Gr V w10 from G9.out.trans (BB.mono G9.out.size))
       have kk := KK.out w10 G10.out
       have qk := QK.out
       have x0 := KI.out w10 G10.out
       have x1 := KQ.out w10 G10.out
       have x2 := KD.out w10 G10.out
       have x3 := JI.out w10 G10.out
       have x4 := JQ.out w10 G10.out
       have x5 := JD.out w10 G10.out
       have x6 := CV1.out w10 G10.out
       have x7 := CV2.out w10 G10.out
       clear BB)
    | (go_at_call 9; (refine (ALV.out w10 G10.out).mono ?_); rintro e w11 ⟨rfl, BB⟩
       have HB_w11 := Lib.hid ((HB_V.out.trans (Below.mono G10.out HB_V.out.size)).trans (BB.mono (Nat.le_trans HB_V.out.size (Below.size G10.out))))
       clear BB)
    | (with_reducible refine atC.at_bin .eql 9 ?_; refine wpList_runG (by kernel_rfl) _ (seq_selfI (T := 9) (S := SB) rfl (by kernel_rfl) (by kernel_rfl)) ?_))
  go_ret
  exact ⟨rfl, HB_w11.out⟩
end Go.Proofs.Ytmbfgolcinniiaa.icC

/-
  How two addresses that came in are opened; the third statement's walk, whole.
-/
namespace Go.Proofs.Ytmbfgolcinniiaa.chkC
open Go.ChangeShapes Go.WideShapes Go.ChangeAt Go.RowKit
open Go.Proofs.Ytmbfgolcinniiaa.memC Go.Proofs.Ytmbfgolcinniiaa.chkM
set_option linter.unusedVariables false
section
variable {P : Program} {w : World} {r : Reach} {b0 : Nat} {t : TypeId}
theorem cell_u8 {ti : TypeId} {v : Value} (hi : P.underlying ti = some (.int .u8)) (h : Cell.okWide P w r b0 ti v) : ∃ z, v = .int .u8 z ∧ Byte z := by
  unfold Cell.okWide at h
  rw [hi] at h
  unfold Cell.ok at h
  rw [hi] at h
  cases v <;> simp at h
  obtain ⟨rfl, h1, h2⟩ := h
  exact ⟨_, rfl, by simpa [IntKind.min, IntKind.max, IntKind.signed, IntKind.bits] using h1, by simpa [IntKind.min, IntKind.max, IntKind.signed, IntKind.bits] using h2⟩
theorem cell_bool {tb : TypeId} {v : Value} (hb : P.underlying tb = some .bool) (h : Cell.okWide P w r b0 tb v) : ∃ s, v = .bool s := by
  unfold Cell.okWide at h
  rw [hb] at h
  unfold Cell.ok at h
  rw [hb] at h
  cases v <;> simp at h
  exact ⟨_, rfl⟩
/-- the number in a cell -/
def numOf : Option Value → Int
  | some (Value.int _ z) => z
  | _ => 0
/-- seventeen cells of which the first is a Bool, the others bytes -/
theorem addr_of {l : List Value} (hl : l.length = 17) (h0 : ∃ s, l[0]? = some (.bool s)) (h1 : ∀ i, i < 16 → ∃ z, l[1 + i]? = some (.int .u8 z) ∧ Byte z) : ∃ s bs, AddrC l.toArray s bs := by
  obtain ⟨s, hs⟩ := h0
  refine ⟨s, (List.range 16).map fun i => numOf l[1 + i]?, ⟨by simpa using hl, by simpa using hs, by simp, fun i hi => ?_, fun x hx => ?_⟩⟩
  · obtain ⟨z, hz, _⟩ := h1 i hi
    rw [List.getD_eq_getElem?_getD]
    simp [hi, hz, numOf]
  · obtain ⟨i, hi, rfl⟩ := List.mem_map.1 hx
    obtain ⟨z, hz, hb⟩ := h1 i (List.mem_range.1 hi)
    rw [hz]; exact hb
theorem open_two {e tb ti : TypeId} {v : Value} (ht : P.underlying t = some (.array 2 e)) (hc : P.cellsOf t = 34) (hts : P.cellTypes P.depth t = some ((tb :: List.replicate 16 ti) ++ (tb :: List.replicate 16 ti)))
    (hb : P.underlying tb = some .bool) (hi : P.underlying ti = some (.int .u8)) (hval : Value.okWide P w r b0 t v) :
    ∃ (l1 l2 : List Value) (s1 s2 : Bool) (b1 b2 : List Int), v = .agg (l1 ++ l2).toArray ∧ l1.length = 17 ∧ l2.length = 17 ∧ AddrC l1.toArray s1 b1 ∧ AddrC l2.toArray s2 b2 := by
  obtain ⟨cs, rfl, hsz, ts, hts', _, hcell⟩ : ∃ cs, v = .agg cs ∧ cs.size = P.cellsOf t ∧ Row.okWide P w r b0 t cs := by
    simpa [Value.okWide, ht] using hval
  obtain ⟨l⟩ := cs
  rw [hc] at hsz
  have hl : l.length = 34 := by simpa using hsz
  rw [hts] at hts'
  obtain rfl := Option.some.inj hts'
  have key : ∀ i, i < 34 → ∃ v u, l[i]? = some v ∧ ((tb :: List.replicate 16 ti) ++ (tb :: List.replicate 16 ti))[i]? = some u ∧ Cell.okWide P w r b0 u v := fun i hi34 => by
    have e : l[i]? = some (l[i]'(by omega)) := List.getElem?_eq_getElem _
    obtain ⟨u, h1, h2⟩ := hcell i (l[i]'(by omega)) (by rw [← e]; simp)
    refine ⟨_, u, e, ?_, h2⟩
    have : i % 34 = i := Nat.mod_eq_of_lt hi34
    simpa [this] using h1
  have kb : ∀ i, i = 0 ∨ i = 17 → ∃ s, l[i]? = some (.bool s) := fun i hi' => by
    obtain ⟨v, u, h1, h2, h3⟩ := key i (by omega)
    have : u = tb := by rcases hi' with rfl | rfl <;> simpa using h2.symm
    subst this
    obtain ⟨s, rfl⟩ := cell_bool hb h3
    exact ⟨s, h1⟩
  have ki : ∀ i, i < 16 → (∃ z, l[1 + i]? = some (.int .u8 z) ∧ Byte z) ∧ ∃ z, l[18 + i]? = some (.int .u8 z) ∧ Byte z := fun i hi' => by
    constructor
    · obtain ⟨v, u, h1, h2, h3⟩ := key (1 + i) (by omega)
      have : u = ti := by
        rw [List.getElem?_append_left (by simp; omega), Nat.add_comm, List.getElem?_cons_succ, List.getElem?_replicate, if_pos hi'] at h2
        exact (Option.some.inj h2).symm
      subst this
      obtain ⟨z, rfl, hz⟩ := cell_u8 hi h3
      exact ⟨z, h1, hz⟩
    · obtain ⟨v, u, h1, h2, h3⟩ := key (18 + i) (by omega)
      have : u = ti := by
        rw [List.getElem?_append_right (by simp; omega)] at h2
        have e : 18 + i - (tb :: List.replicate 16 ti).length = i + 1 := by simp; omega
        rw [e, List.getElem?_cons_succ, List.getElem?_replicate, if_pos hi'] at h2
        exact (Option.some.inj h2).symm
      subst this
      obtain ⟨z, rfl, hz⟩ := cell_u8 hi h3
      exact ⟨z, h1, hz⟩
  obtain ⟨s1, b1, A1⟩ := addr_of (l := l.take 17) (by simp; omega) (by obtain ⟨s, hs⟩ := kb 0 (.inl rfl); exact ⟨s, by simpa using hs⟩)
    (fun i hi' => by obtain ⟨z, hz, hy⟩ := (ki i hi').1; exact ⟨z, by rw [List.getElem?_take, if_pos (by omega)]; exact hz, hy⟩)
  obtain ⟨s2, b2, A2⟩ := addr_of (l := l.drop 17) (by simp; omega) (by obtain ⟨s, hs⟩ := kb 17 (.inr rfl); exact ⟨s, by simpa using hs⟩)
    (fun i hi' => by obtain ⟨z, hz, hy⟩ := (ki i hi').2; exact ⟨z, by rw [List.getElem?_drop, show 17 + (1 + i) = 18 + i by omega]; exact hz, hy⟩)
  exact ⟨l.take 17, l.drop 17, s1, s2, b1, b2, by rw [List.take_append_drop], by simp; omega, by simp; omega, A1, A2⟩
end
end Go.Proofs.Ytmbfgolcinniiaa.chkC
