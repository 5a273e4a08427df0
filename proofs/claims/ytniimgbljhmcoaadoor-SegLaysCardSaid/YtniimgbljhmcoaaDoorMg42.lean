/-
  1 texts of a proof, joined.
-/
import Derived.Test.YtniimgbljhmcoaaDoorMg41
import Derived.Test.YtniimgbljhmcoaaDoorMg36
import Derived.Test.YtniimgbljhmcoaaDoorMg32

/-
  The walk of SegLays.
-/
namespace Go.Proofs.YtniimgbljhmcoaaDoor.sgC
open Go.ChangeShapes Go.WideShapes Go.ChangeAt Go.RowKit
open Go.Proofs.YtniimgbljhmcoaaDoor.memC Go.Proofs.YtniimgbljhmcoaaDoor.genC Go.Proofs.YtniimgbljhmcoaaDoor.butC Go.Proofs.YtniimgbljhmcoaaDoor.freeC Go.Proofs.YtniimgbljhmcoaaDoor.adC
open Go.Proofs.YtniimgbljhmcoaaDoor.opC (Kd Prs zOpt zOpt_ok U32 OwnP gr_drewG)
open Go.Proofs.YtniimgbljhmcoaaDoor.pkC (OwnE)
set_option linter.unusedVariables false
theorem seq_selfS {P : Program} {o : Oper} {a : Act} {w : World} {T : TypeId} {s x : Operand} {S : ByteArray} {R : TypeId} (ho : o.op = .binOp .eql T s x R) (hs : a.eval s = .string S) (hx : a.eval x = .string S) : (execOp a.eval o).run P w = .ok (.value (.bool true)) w :=
  seq_run ho hs hx (by simp)
def slV (g0 g1 : Nat) (CP CQ : Array Value) (A1 A2 : Option Addr) (n1 c1 n2 c2 : Nat) (er ln tf : Int) (my sm hs : Bool) (SB : ByteArray) : Nat → Value → World → Prop
  | 0, v, _ => v = .slice A1 n1 c1
  | 1, v, _ => v = .string SB
  | 2, v, _ => v = .slice A2 n2 c2
  | 3, v, _ => v = .string SB
  | 4, v, _ => v = .bool true
  | 5, v, _ => v = .bool true
  | 6, v, _ => v = .int .i64 er
  | 7, v, _ => v = .int .i64 er
  | 8, v, _ => v = .bool true
  | 9, v, _ => v = .bool true
  | 10, v, _ => v = .bool true
  | 11, v, _ => v = .agg CP
  | 12, v, _ => v = .bool my
  | 13, v, _ => v = .agg CP
  | 14, v, _ => v = .bool my
  | 15, v, _ => v = .bool true
  | 16, v, _ => v = .bool true
  | 17, v, _ => v = .bool true
  | 18, v, _ => v = .agg CP
  | 19, v, _ => v = .int .u32 ln
  | 20, v, _ => v = .agg CP
  | 21, v, _ => v = .int .u32 ln
  | 22, v, _ => v = .bool true
  | 23, v, _ => v = .bool true
  | 24, v, _ => v = .bool true
  | 25, v, _ => v = .agg CP
  | 26, v, _ => v = .agg CQ
  | 27, v, _ => v = .bool sm
  | 28, v, _ => v = .agg CP
  | 29, v, _ => v = .agg CQ
  | 30, v, _ => v = .bool sm
  | 31, v, _ => v = .bool true
  | 32, v, _ => v = .bool true
  | 33, v, _ => v = .bool true
  | 34, v, _ => v = .agg CP
  | 35, v, _ => v = .pointer (some ⟨g1, 4, none⟩)
  | 36, v, _ => v = .int .u8 tf
  | 37, v, _ => v = .bool hs
  | 38, v, _ => v = .agg CP
  | 39, v, _ => v = .pointer (some ⟨g1, 4, none⟩)
  | 40, v, _ => v = .int .u8 tf
  | 41, v, _ => v = .bool hs
  | 42, v, _ => v = .bool true
  | 43, v, _ => v = .bool true
  | 44, v, _ => v = .bool true
  | 45, v, _ => v = .bool true
  | 46, v, _ => v = .bool true
  | 47, v, _ => v = .bool true
  | _, _, _ => True
theorem slV.keep (g0 g1 : Nat) (CP CQ : Array Value) (A1 A2 : Option Addr) (n1 c1 n2 c2 : Nat) (er ln tf : Int) (my sm hs : Bool) (SB : ByteArray) (i : Nat) (v : Value) (w w' : World) (hb : Below w.heap.size w w') (h : slV g0 g1 CP CQ A1 A2 n1 c1 n2 c2 er ln tf my sm hs SB i v w) : slV g0 g1 CP CQ A1 A2 n1 c1 n2 c2 er ln tf my sm hs SB i v w' := by
  unfold slV at h ⊢
  split at h <;> exact h
def slT : List (Option Nat) := [none, none, none, none, none, none, some 47, none, none, none, none, none, none, none, none, none, none, none, none, none, none, none, none, none, none, none, none, none, none, none, none, none, none, none, none, none, some 0, some 1, some 2, some 3, some 4, some 5, some 6, some 7, some 8, some 9, some 10, some 11, some 12, some 13, some 14, some 15, some 16, some 17, some 18, some 19, some 20, some 21, some 22, some 23, some 24, some 25, some 26, some 27, some 28, some 29, some 30, some 31, some 32, some 33, some 34, some 35, some 36, some 37, some 38, some 39, some 40, some 41, some 42, some 43, some 44, some 45, some 46]
set_option maxRecDepth 100000 in
set_option maxHeartbeats 8000000 in
theorem lays_walk (l1 l2 : List Value) (s1 s2 : Bool) (b1 b2 : List Int) (p : Sg) (A : Option Addr) (n c : Nat) (B : Option Addr) (m d : Nat) (xs : List Int) (q : Sg) (A' : Option Addr) (n' c' : Nat) (B' : Option Addr) (m' d' : Nat) (ys : List Int) (w : World) (hk : Kd w) (e1 : l1.length = 17) (e2 : l2.length = 17) (h1 : chkC.AddrC l1.toArray s1 b1) (h2 : chkC.AddrC l2.toArray s2 b2)
    (hp : p.Ok) (hA : Prs w w.heap.size A n p.op.sk) (hx : Nums .u8 w w.heap.size B m xs) (yx : ∀ x ∈ xs, Byte x) (hq : q.Ok) (hA' : Prs w w.heap.size A' n' q.op.sk) (hy : Nums .u8 w w.heap.size B' m' ys) (yy : ∀ x ∈ ys, Byte x) :
    Calls Tryd.prog 3 #[.agg (l1 ++ l2).toArray, .agg (segV p A n c B m d), .agg (segV q A' n' c' B' m' d')] w (Ret w (.bool true)) := by
  have E1 := Lib.hid e1
  have U1 := Lib.hid (show (Tryd.prog.info? 24).map (·.size) = some l1.length by rw [e1]; exact addr_info)
  have U2 := Lib.hid (show (Tryd.prog.info? 24).map (·.size) = some l2.length by rw [e2]; exact addr_info)
  have hn := hA.len
  have hml := hx.len
  obtain ⟨W0, hW0⟩ : ∃ W, W = w.alloc (.cells (l1 ++ l2).toArray 25) := ⟨_, rfl⟩
  obtain ⟨W1, hW1⟩ : ∃ W, W = W0.alloc (.cells (segV p A n c B m d) 34) := ⟨_, rfl⟩
  obtain ⟨W, hW⟩ : ∃ W, W = W1.alloc (.cells (segV q A' n' c' B' m' d') 34) := ⟨_, rfl⟩
  have z0 : W0.heap.size = w.heap.size + 1 := by rw [hW0, alloc_size]
  have z1 : W1.heap.size = w.heap.size + 2 := by rw [hW1, alloc_size, z0]
  have z2 : W.heap.size = w.heap.size + 3 := by rw [hW, alloc_size, z1]
  have B0 : Below w.heap.size w W0 := by rw [hW0]; exact alloc_below _ _
  have B1 : Below W0.heap.size W0 W1 := by rw [hW1]; exact alloc_below _ _
  have B2 : Below W1.heap.size W1 W := by rw [hW]; exact alloc_below _ _
  have HB_W := Lib.hid (show Below w.heap.size w W from (B0.trans (B1.mono (by omega))).trans (B2.mono (by omega)))
  have RT_W := Lib.hid (show W.heap[w.heap.size]? = some (.cells (l1 ++ l2).toArray 25 (0, 0)) by rw [B2.block _ (by omega), B1.block _ (by omega), hW0]; exact heap_alloc_new _ _)
  have RP_W := Lib.hid (show W.heap[w.heap.size + 1]? = some (.cells (segV p A n c B m d) 34 (0, 0)) by rw [B2.block _ (by omega), hW1, ← z0]; exact heap_alloc_new _ _)
  have RQ_W := Lib.hid (show W.heap[w.heap.size + 2]? = some (.cells (segV q A' n' c' B' m' d') 34 (0, 0)) by rw [hW, ← z1]; exact heap_alloc_new _ _)
  have IP := Lib.hid (segC hp.op.lm A n c B m d).info
  have IQ := Lib.hid (segC hq.op.lm A' n' c' B' m' d').info
  have F0 := Lib.hid (fun w' => far_any p A n c B m d w' hp.op.lm)
  have F1 := Lib.hid (fun w' => far_any q A' n' c' B' m' d' w' hq.op.lm)
  have AL0 := Lib.hid (fun (w' : World) (h : Below w.heap.size w w') => alive_any w' (hk.bel h))
  have PX := fun (w' : World) (h : Below w.heap.size w w') => (hA.below h).more h.size
  have PY := fun (w' : World) (h : Below w.heap.size w w') => (hA'.below h).more h.size
  have XX := fun (w' : World) (h : Below w.heap.size w w') => (hx.below h).more h.size
  have XY := fun (w' : World) (h : Below w.heap.size w w') => (hy.below h).more h.size
  obtain ⟨f0, hf0⟩ : ∃ f0, farB m n = f0 := ⟨_, rfl⟩
  obtain ⟨f1, hf1⟩ : ∃ f1, farB m' n' = f1 := ⟨_, rfl⟩
  rw [hf0] at F0
  rw [hf1] at F1
  cases f0
  rotate_left
  · generalize segV p A n c B m d = CP at *
    generalize segV q A' n' c' B' m' d' = CQ at *
    generalize (l1 ++ l2).toArray = CT at *
    clear hk hp hA hx yx hq hA' hy yy PX PY XX XY hf0 hf1 z2 B0 B1 B2 h1 h2
    go_enter Tryd.func3, Tryd.ntmps3
    try simp only [List.append_eq, List.cons_append, List.nil_append]
    go_upto_region 1 with fail
    rw [← hW0, ← hW1, ← hW]
    try rw [z0]
    try rw [z1]
    clear hW0 hW1 hW z0 z1
    go_wp2_with (first
      | go_skip
      | (with_reducible refine atC.at_load 34 4 ?_; refine wpList_load_rowG (by kernel_rfl) 34 (.tmp 4) rfl (w.heap.size + 1) (by kernel_rfl) _ _ _ _ RP_W.out Tryd.underlying34 rfl IP.out ?_)
      | (go_at_call 9; (with_reducible refine (F0.out _).mono ?_); rintro e w2 ⟨rfl, BB⟩
         have HB_w2 := Lib.hid (HB_W.out.trans (BB.mono HB_W.out.size))
         have RT_w2 := Lib.hid ((BB.block _ (opC.lt_of_row RT_W.out)).trans RT_W.out)
         have RP_w2 := Lib.hid ((BB.block _ (opC.lt_of_row RP_W.out)).trans RP_W.out)
         have RQ_w2 := Lib.hid ((BB.block _ (opC.lt_of_row RQ_W.out)).trans RQ_W.out)
         clear BB)
      | (go_at_call 10; (refine (AL0.out _ HB_w2.out).mono ?_); rintro e w5 ⟨rfl, BB⟩
         have HB_w5 := Lib.hid (HB_w2.out.trans (BB.mono HB_w2.out.size))
         clear BB))
    go_ret
    exact ⟨rfl, HB_w5.out⟩
  cases f1
  rotate_left
  · generalize segV p A n c B m d = CP at *
    generalize segV q A' n' c' B' m' d' = CQ at *
    generalize (l1 ++ l2).toArray = CT at *
    clear hk hp hA hx yx hq hA' hy yy PX PY XX XY hf0 hf1 z2 B0 B1 B2 h1 h2
    go_enter Tryd.func3, Tryd.ntmps3
    try simp only [List.append_eq, List.cons_append, List.nil_append]
    go_upto_region 1 with fail
    rw [← hW0, ← hW1, ← hW]
    try rw [z0]
    try rw [z1]
    clear hW0 hW1 hW z0 z1
    go_wp2_with (first
      | go_skip
      | (with_reducible refine atC.at_load 34 4 ?_; refine wpList_load_rowG (by kernel_rfl) 34 (.tmp 4) rfl (w.heap.size + 1) (by kernel_rfl) _ _ _ _ RP_W.out Tryd.underlying34 rfl IP.out ?_)
      | (with_reducible refine atC.at_load 34 5 ?_; refine wpList_load_rowG (by kernel_rfl) 34 (.tmp 5) rfl (w.heap.size + 2) (by kernel_rfl) _ _ _ _ RQ_w2.out Tryd.underlying34 rfl IQ.out ?_)
      | (go_at_call 9; (with_reducible refine (F0.out _).mono ?_); rintro e w2 ⟨rfl, BB⟩
         have HB_w2 := Lib.hid (HB_W.out.trans (BB.mono HB_W.out.size))
         have RT_w2 := Lib.hid ((BB.block _ (opC.lt_of_row RT_W.out)).trans RT_W.out)
         have RP_w2 := Lib.hid ((BB.block _ (opC.lt_of_row RP_W.out)).trans RP_W.out)
         have RQ_w2 := Lib.hid ((BB.block _ (opC.lt_of_row RQ_W.out)).trans RQ_W.out)
         clear BB)
      | (go_at_call 9; (with_reducible refine (F1.out _).mono ?_); rintro e w3 ⟨rfl, BB⟩
         have HB_w3 := Lib.hid (HB_w2.out.trans (BB.mono HB_w2.out.size))
         have RT_w3 := Lib.hid ((BB.block _ (opC.lt_of_row RT_w2.out)).trans RT_w2.out)
         have RP_w3 := Lib.hid ((BB.block _ (opC.lt_of_row RP_w2.out)).trans RP_w2.out)
         have RQ_w3 := Lib.hid ((BB.block _ (opC.lt_of_row RQ_w2.out)).trans RQ_w2.out)
         clear BB)
      | (go_at_call 10; (refine (AL0.out _ HB_w3.out).mono ?_); rintro e w5 ⟨rfl, BB⟩
         have HB_w5 := Lib.hid (HB_w3.out.trans (BB.mono HB_w3.out.size))
         clear BB))
    go_ret
    exact ⟨rfl, HB_w5.out⟩
  have hf := farB_not hf0
  have hf' := farB_not hf1
  have hm15 : mayS p m = true → m ≤ 1500 := fun h => by
    have h3 : m ≤ 16384 := by
      unfold mayS at h
      simp only [Bool.and_eq_true, decide_eq_true_eq] at h
      exact h.2.2
    omega
  have LC := Lib.hid (fun (w' : World) (h : Below w.heap.size w w') => clay_any l1.toArray l2.toArray s1 s2 b1 b2 p A n c B m d xs w' h1 h2 (hk.bel h) hp hn (PX w' h) (by omega) (XX w' h) yx (fun h => by have := hm15 h; omega))
  have LR := Lib.hid (fun (w' : World) (h : Below w.heap.size w w') => rlay_any l1.toArray l2.toArray s1 s2 b1 b2 p A n c B m d xs w' h1 h2 hp hn (PX w' h) (by omega) (XX w' h) yx (fun h => by have := hm15 h; omega))
  have CZ0 := Lib.hid (fun (w' : World) => clen_any p A n c B m d w' hp.op.lm hp.fl (by omega))
  have DZ0 := Lib.hid (fun (w' : World) => rlen_any p A n c B m d w' hp.op.lm hp.fl (by omega))
  have CM0 := Lib.hid (fun (w' : World) (h : Below w.heap.size w w') => cmay_any p A n c B m d w' (hk.bel h) hp.op.lm hn (by omega))
  have DM0 := Lib.hid (fun (w' : World) (h : Below w.heap.size w w') => rmay_any p A n c B m d w' hp.op hn (PX w' h) (by omega))
  have CS0 := Lib.hid (fun (w' : World) (h : Below w.heap.size w w') => csame_any p q A A' n c n' c' B B' m d m' d' xs ys w' hp.op.lm hq.op.lm (PX w' h) (PY w' h) (by omega) (by omega) (XX w' h) (XY w' h) yx yy)
  have DS0 := Lib.hid (fun (w' : World) (h : Below w.heap.size w w') => rsame_any p q A A' n c n' c' B B' m d m' d' xs ys w' hp.op.lm hq.op.lm (PX w' h) (PY w' h) (by omega) (by omega) (XX w' h) (XY w' h) yx yy)
  have CH0 := Lib.hid (fun (w' : World) => chas_any p A n c B m d q.fl w' hp.op.lm)
  have DH0 := Lib.hid (fun (w' : World) => rhas_any p A n c B m d q.fl w' hp.op.lm)
  have KF0 := Lib.hid (fun (w' : World) (h : w'.heap[w.heap.size + 2]? = some (.cells (segV q A' n' c' B' m' d') 34 (0, 0))) => pkC.PkC.cell h (segC hq.op.lm A' n' c' B' m' d').fl)
  generalize mayS p m = my at *
  generalize sameS p xs q ys = sm at *
  generalize hasS p.fl q.fl = hs at *
  generalize laysE p m = er at *
  generalize lenN p.fl m = ln at *
  generalize q.fl = tf at *
  obtain ⟨BS, hBS⟩ : ∃ L, L = laysL s1 s2 b1 b2 p xs := ⟨_, rfl⟩
  simp only [← hBS] at LC LR
  generalize segV p A n c B m d = CP at *
  generalize segV q A' n' c' B' m' d' = CQ at *
  obtain ⟨CT, hCT⟩ : ∃ C, C = (l1 ++ l2).toArray := ⟨_, rfl⟩
  simp only [← hCT] at hW0 ⊢
  clear hk hp hA hx yx hq hA' hy yy PX PY XX XY hf0 hf1 z2 B0 B1 B2 h1 h2 hBS hm15 hf hf' hml hn hCT
  go_enter Tryd.func3, Tryd.ntmps3
  try simp only [List.append_eq, List.cons_append, List.nil_append]
  go_upto_region 1 with fail
  rw [← hW0, ← hW1, ← hW]
  try rw [z0]
  try rw [z1]
  clear hW0 hW1 hW z0 z1
  go_upto_region 3 with (first
    | go_skip
    | (with_reducible refine atC.at_load 34 4 ?_; refine wpList_load_rowG (by kernel_rfl) 34 (.tmp 4) rfl (w.heap.size + 1) (by kernel_rfl) _ _ _ _ RP_W.out Tryd.underlying34 rfl IP.out ?_)
    | (with_reducible refine atC.at_load 34 5 ?_; refine wpList_load_rowG (by kernel_rfl) 34 (.tmp 5) rfl (w.heap.size + 2) (by kernel_rfl) _ _ _ _ RQ_w2.out Tryd.underlying34 rfl IQ.out ?_)
    | (go_at_call 9; (with_reducible refine (F0.out _).mono ?_); rintro e w2 ⟨rfl, BB⟩
       have HB_w2 := Lib.hid (HB_W.out.trans (BB.mono HB_W.out.size))
       have RT_w2 := Lib.hid ((BB.block _ (opC.lt_of_row RT_W.out)).trans RT_W.out)
       have RP_w2 := Lib.hid ((BB.block _ (opC.lt_of_row RP_W.out)).trans RP_W.out)
       have RQ_w2 := Lib.hid ((BB.block _ (opC.lt_of_row RQ_W.out)).trans RQ_W.out)
       clear BB)
    | (go_at_call 9; (with_reducible refine (F1.out _).mono ?_); rintro e w3 ⟨rfl, BB⟩
       have HB_w3 := Lib.hid (HB_w2.out.trans (BB.mono HB_w2.out.size))
       have RT_w3 := Lib.hid ((BB.block _ (opC.lt_of_row RT_w2.out)).trans RT_w2.out)
       have RP_w3 := Lib.hid ((BB.block _ (opC.lt_of_row RP_w2.out)).trans RP_w2.out)
       have RQ_w3 := Lib.hid ((BB.block _ (opC.lt_of_row RQ_w2.out)).trans RQ_w2.out)
       clear BB))
  clear F0 F1 RT_W RP_W RQ_W RT_w2 RP_w2 RQ_w2
  go_upto_region 4 with (first
    | (with_reducible refine atC.at_load 24 19 ?_; refine pkC.wpList_load_partG (by kernel_rfl) 24 (.tmp 19) rfl (w.heap.size) 0 (by kernel_rfl) l1 _ (two_row E1.out RT_w3.out).1 Tryd.underlying24 rfl U1.out ?_)
    | (with_reducible refine atC.at_load 24 21 ?_; refine pkC.wpList_load_partG (by kernel_rfl) 24 (.tmp 21) rfl (w.heap.size) 17 (by kernel_rfl) l2 _ (two_row E1.out RT_w3.out).2 Tryd.underlying24 rfl U2.out ?_)
    | (with_reducible refine atC.at_load 34 4 ?_; refine wpList_load_rowG (by kernel_rfl) 34 (.tmp 4) rfl (w.heap.size + 1) (by kernel_rfl) _ _ _ _ RP_w3.out Tryd.underlying34 rfl IP.out ?_)
    | (go_at_call 11; (refine (LC.out _ HB_w3.out).mono ?_); rintro e w4 ⟨A1, n1, c1, rfl, O1, BB⟩
       have HB_w4 := Lib.hid (HB_w3.out.trans (BB.mono HB_w3.out.size))
       have RT_w4 := Lib.hid ((BB.block _ (opC.lt_of_row RT_w3.out)).trans RT_w3.out)
       have RP_w4 := Lib.hid ((BB.block _ (opC.lt_of_row RP_w3.out)).trans RP_w3.out)
       have RQ_w4 := Lib.hid ((BB.block _ (opC.lt_of_row RQ_w3.out)).trans RQ_w3.out)
       have N1 := Lib.hid O1.nums
       clear O1
       clear BB))
  clear RT_w3 RP_w3 RQ_w3
  go_upto_region 5 with (first
    | (with_reducible refine atC.at_load 24 28 ?_; refine pkC.wpList_load_partG (by kernel_rfl) 24 (.tmp 28) rfl (w.heap.size) 0 (by kernel_rfl) l1 _ (two_row E1.out RT_w4.out).1 Tryd.underlying24 rfl U1.out ?_)
    | (with_reducible refine atC.at_load 24 30 ?_; refine pkC.wpList_load_partG (by kernel_rfl) 24 (.tmp 30) rfl (w.heap.size) 17 (by kernel_rfl) l2 _ (two_row E1.out RT_w4.out).2 Tryd.underlying24 rfl U2.out ?_)
    | (with_reducible refine atC.at_load 34 4 ?_; refine wpList_load_rowG (by kernel_rfl) 34 (.tmp 4) rfl (w.heap.size + 1) (by kernel_rfl) _ _ _ _ RP_w4.out Tryd.underlying34 rfl IP.out ?_)
    | (go_at_call 12; (refine (LR.out _ HB_w4.out).mono ?_); rintro e V ⟨A2, n2, c2, rfl, O2, BB⟩
       have HB_V := Lib.hid (HB_w4.out.trans (BB.mono HB_w4.out.size))
       have RT_V := Lib.hid ((BB.block _ (opC.lt_of_row RT_w4.out)).trans RT_w4.out)
       have RP_V := Lib.hid ((BB.block _ (opC.lt_of_row RP_w4.out)).trans RP_w4.out)
       have RQ_V := Lib.hid ((BB.block _ (opC.lt_of_row RQ_w4.out)).trans RQ_w4.out)
       have N1v := Lib.hid ((N1.out.below BB).more BB.size)
       have N2v := Lib.hid O2.nums
       clear O2
       clear BB))
  clear N1 RT_w4 RP_w4 RQ_w4 RT_V LC LR
  obtain ⟨SB, hSB⟩ : ∃ S, S = strOfNums BS := ⟨_, rfl⟩
  have CV1 := Lib.hid (fun w' (h : Gr V w') => (show (convert 32 9 (.slice A1 n1 c1)).run Tryd.prog w' = .ok (.string SB) w' by rw [hSB]; exact run_string (N1v.out.below h) c1 32 5 9 Tryd.underlying32 Tryd.underlying5 Tryd.underlying9))
  have CV2 := Lib.hid (fun w' (h : Gr V w') => (show (convert 32 9 (.slice A2 n2 c2)).run Tryd.prog w' = .ok (.string SB) w' by rw [hSB]; exact run_string (N2v.out.below h) c2 32 5 9 Tryd.underlying32 Tryd.underlying5 Tryd.underlying9))
  have GV := Lib.hid (fun (w' : World) (h : Gr V w') => HB_V.out.trans (Below.mono h HB_V.out.size))
  have KP := Lib.hid (fun (w' : World) (h : Gr V w') => (Below.block h _ (opC.lt_of_row RP_V.out)).trans RP_V.out)
  have KQ := Lib.hid (fun (w' : World) (h : Gr V w') => (Below.block h _ (opC.lt_of_row RQ_V.out)).trans RQ_V.out)
  have KF := Lib.hid (fun (w' : World) (h : Gr V w') => KF0.out w' (KQ.out w' h))
  have CZ := Lib.hid (fun w' (h : Gr V w') => CZ0.out w')
  have DZ := Lib.hid (fun w' (h : Gr V w') => DZ0.out w')
  have CM := Lib.hid (fun w' (h : Gr V w') => CM0.out w' (GV.out w' h))
  have DM := Lib.hid (fun w' (h : Gr V w') => DM0.out w' (GV.out w' h))
  have CS := Lib.hid (fun w' (h : Gr V w') => CS0.out w' (GV.out w' h))
  have DS := Lib.hid (fun w' (h : Gr V w') => DS0.out w' (GV.out w' h))
  have CH := Lib.hid (fun w' (h : Gr V w') => CH0.out w')
  have DH := Lib.hid (fun w' (h : Gr V w') => DH0.out w')
  have AL := Lib.hid (fun w' (h : Gr V w') => AL0.out w' (GV.out w' h))
  clear hSB N1v N2v GV KF0 CZ0 DZ0 CM0 DM0 CS0 DS0 CH0 DH0 AL0 RP_V RQ_V
  refine with_act fun a0 ha0 => ?_
  have hl : slT.length = a0.tmps.size := by rw [ha0]; rfl
  have k4 : a0.tmps[4]?.getD undef = .pointer (some ⟨(w.heap.size + 1), 0, none⟩) := by rw [ha0]; rfl
  have k5 : a0.tmps[5]?.getD undef = .pointer (some ⟨(w.heap.size + 2), 0, none⟩) := by rw [ha0]; rfl
  have k7 : a0.tmps[7]?.getD undef = .slice A1 n1 c1 := by rw [ha0]; rfl
  have k8 : a0.tmps[8]?.getD undef = .int .i64 er := by rw [ha0]; rfl
  have k9 : a0.tmps[9]?.getD undef = .slice A2 n2 c2 := by rw [ha0]; rfl
  have k10 : a0.tmps[10]?.getD undef = .int .i64 er := by rw [ha0]; rfl
  refine wp_region_vals (by kernel_rfl) slT (by kernel_rfl) (by kernel_rfl) hl (fun i => if i = 47 then .bool false else undef) (by rw [ha0]; rfl) (Gr V) (slV (w.heap.size + 1) (w.heap.size + 2) CP CQ A1 A2 n1 c1 n2 c2 er ln tf my sm hs SB) (gr_drewG _ _) (slV.keep _ _ _ _ _ _ _ _ _ _ _ _ _ _ _ _ _) ⟨?_, ?_, ?_, ?_, ?_, ?_, ?_, ?_, ?_, ?_, ?_, ?_, ?_, ?_, ?_, ?_, ?_, ?_, ?_, ?_, ?_, ?_, ?_, ?_, ?_, ?_, ?_, ?_, ?_, ?_, ?_, ?_, ?_, ?_, ?_, ?_, ?_, ?_, ?_, ?_, ?_, ?_, ?_, ?_, ?_, ?_, ?_, ?_, trivial⟩ ?_
  · refine step_plain [] (by kernel_rfl) rfl fun us w' hG hV => ?_
    have o7 := (frame_old2 (us := us) (a := a0) (show (slT[7]?).join = none from rfl)).trans k7
    generalize frame slT a0 us = fr at *
    exact val_ok (v := .slice A1 n1 c1) (w' := w') (by go_simp) hG (Below.refl _ _) rfl
  · refine step_plain [0] (by kernel_rfl) rfl fun us w' hG hV => ?_
    have e0 : us 0 = .slice A1 n1 c1 := hV 0 (by simp)
    have v0 := (frame_at2 (us := us) hl (show (slT[36]?).join = some 0 from rfl)).trans e0
    have hcv := CV1.out w' hG
    generalize frame slT a0 us = fr at *
    exact val_ok (v := .string SB) (w' := w') (by go_simp) hG (Below.refl _ _) rfl
  · refine step_plain [] (by kernel_rfl) rfl fun us w' hG hV => ?_
    have o9 := (frame_old2 (us := us) (a := a0) (show (slT[9]?).join = none from rfl)).trans k9
    generalize frame slT a0 us = fr at *
    exact val_ok (v := .slice A2 n2 c2) (w' := w') (by go_simp) hG (Below.refl _ _) rfl
  · refine step_plain [2] (by kernel_rfl) rfl fun us w' hG hV => ?_
    have e2 : us 2 = .slice A2 n2 c2 := hV 2 (by simp)
    have v2 := (frame_at2 (us := us) hl (show (slT[38]?).join = some 2 from rfl)).trans e2
    have hcv := CV2.out w' hG
    generalize frame slT a0 us = fr at *
    exact val_ok (v := .string SB) (w' := w') (by go_simp) hG (Below.refl _ _) rfl
  · refine step_plain [1, 3] (by kernel_rfl) rfl fun us w' hG hV => ?_
    have e1 : us 1 = .string SB := hV 1 (by simp)
    have v1 := (frame_at2 (us := us) hl (show (slT[37]?).join = some 1 from rfl)).trans e1
    have e3 : us 3 = .string SB := hV 3 (by simp)
    have v3 := (frame_at2 (us := us) hl (show (slT[39]?).join = some 3 from rfl)).trans e3
    generalize frame slT a0 us = fr at *
    exact val_ok (v := .bool true) (w' := w') (seq_selfS (S := SB) (a := fr) rfl (by simpa only [Act.eval, Array.getD_eq_getD_getElem?] using v1) (by simpa only [Act.eval, Array.getD_eq_getD_getElem?] using v3)) hG (Below.refl _ _) rfl
  · refine step_plain [4] (by kernel_rfl) rfl fun us w' hG hV => ?_
    have e4 : us 4 = .bool true := hV 4 (by simp)
    have v4 := (frame_at2 (us := us) hl (show (slT[40]?).join = some 4 from rfl)).trans e4
    generalize frame slT a0 us = fr at *
    exact val_ok (v := .bool true) (w' := w') (by go_simp) hG (Below.refl _ _) rfl
  · refine step_guard [5] (by kernel_rfl) (j := 5) (t := 41) (b := true) rfl (by simp) rfl hl rfl (fun v w h => h) fun us w' hG hV => ?_
    have o8 := (frame_old2 (us := us) (a := a0) (show (slT[8]?).join = none from rfl)).trans k8
    generalize frame slT a0 us = fr at *
    exact val_ok (v := .int .i64 er) (w' := w') (by go_simp) hG (Below.refl _ _) rfl
  · refine step_guard [5] (by kernel_rfl) (j := 5) (t := 41) (b := true) rfl (by simp) rfl hl rfl (fun v w h => h) fun us w' hG hV => ?_
    have o10 := (frame_old2 (us := us) (a := a0) (show (slT[10]?).join = none from rfl)).trans k10
    generalize frame slT a0 us = fr at *
    exact val_ok (v := .int .i64 er) (w' := w') (by go_simp) hG (Below.refl _ _) rfl
  · refine step_guard [5, 6, 7] (by kernel_rfl) (j := 5) (t := 41) (b := true) rfl (by simp) rfl hl rfl (fun v w h => h) fun us w' hG hV => ?_
    have e6 : us 6 = .int .i64 er := hV 6 (by simp)
    have v6 := (frame_at2 (us := us) hl (show (slT[42]?).join = some 6 from rfl)).trans e6
    have e7 : us 7 = .int .i64 er := hV 7 (by simp)
    have v7 := (frame_at2 (us := us) hl (show (slT[43]?).join = some 7 from rfl)).trans e7
    generalize frame slT a0 us = fr at *
    exact val_ok (v := .bool true) (w' := w') (by go_simp) hG (Below.refl _ _) rfl
  · refine step_plain [5, 8] (by kernel_rfl) rfl fun us w' hG hV => ?_
    have e5 : us 5 = .bool true := hV 5 (by simp)
    have v5 := (frame_at2 (us := us) hl (show (slT[41]?).join = some 5 from rfl)).trans e5
    have e8 : us 8 = .bool true := hV 8 (by simp)
    have v8 := (frame_at2 (us := us) hl (show (slT[44]?).join = some 8 from rfl)).trans e8
    generalize frame slT a0 us = fr at *
    exact val_ok (v := .bool true) (w' := w') (by go_simp) hG (Below.refl _ _) rfl
  · refine step_plain [9] (by kernel_rfl) rfl fun us w' hG hV => ?_
    have e9 : us 9 = .bool true := hV 9 (by simp)
    have v9 := (frame_at2 (us := us) hl (show (slT[45]?).join = some 9 from rfl)).trans e9
    generalize frame slT a0 us = fr at *
    exact val_ok (v := .bool true) (w' := w') (by go_simp) hG (Below.refl _ _) rfl
  · refine step_guard [10] (by kernel_rfl) (j := 10) (t := 46) (b := true) rfl (by simp) rfl hl rfl (fun v w h => h) fun us w' hG hV => ?_
    have o4 := (frame_old2 (us := us) (a := a0) (show (slT[4]?).join = none from rfl)).trans k4
    have hg1 := (KP.out w' hG)
    generalize frame slT a0 us = fr at *
    exact load_ok 34 4 rfl ((w.heap.size + 1)) o4 _ _ (0, 0) _ hg1 Tryd.underlying34 rfl IP.out hG rfl
  · refine step_guard [10, 11] (by kernel_rfl) (j := 10) (t := 46) (b := true) rfl (by simp) rfl hl rfl (fun v w h => h) fun us w' hG hV => ?_
    have e11 : us 11 = .agg CP := hV 11 (by simp)
    have v11 := (frame_at2 (us := us) hl (show (slT[47]?).join = some 11 from rfl)).trans e11
    generalize frame slT a0 us = fr at *
    exact call_ok (f := 13) (args := #[.agg CP]) (by go_simp) ((CM.out w' hG).mono fun e w'' h => ⟨_, h.1, hG.below h.2, h.2, rfl⟩)
  · refine step_guard [10] (by kernel_rfl) (j := 10) (t := 46) (b := true) rfl (by simp) rfl hl rfl (fun v w h => h) fun us w' hG hV => ?_
    have o4 := (frame_old2 (us := us) (a := a0) (show (slT[4]?).join = none from rfl)).trans k4
    have hg1 := (KP.out w' hG)
    generalize frame slT a0 us = fr at *
    exact load_ok 34 4 rfl ((w.heap.size + 1)) o4 _ _ (0, 0) _ hg1 Tryd.underlying34 rfl IP.out hG rfl
  · refine step_guard [10, 13] (by kernel_rfl) (j := 10) (t := 46) (b := true) rfl (by simp) rfl hl rfl (fun v w h => h) fun us w' hG hV => ?_
    have e13 : us 13 = .agg CP := hV 13 (by simp)
    have v13 := (frame_at2 (us := us) hl (show (slT[49]?).join = some 13 from rfl)).trans e13
    generalize frame slT a0 us = fr at *
    exact call_ok (f := 14) (args := #[.agg CP]) (by go_simp) ((DM.out w' hG).mono fun e w'' h => ⟨_, h.1, hG.below h.2, h.2, rfl⟩)
  · refine step_guard [10, 12, 14] (by kernel_rfl) (j := 10) (t := 46) (b := true) rfl (by simp) rfl hl rfl (fun v w h => h) fun us w' hG hV => ?_
    have e12 : us 12 = .bool my := hV 12 (by simp)
    have v12 := (frame_at2 (us := us) hl (show (slT[48]?).join = some 12 from rfl)).trans e12
    have e14 : us 14 = .bool my := hV 14 (by simp)
    have v14 := (frame_at2 (us := us) hl (show (slT[50]?).join = some 14 from rfl)).trans e14
    generalize frame slT a0 us = fr at *
    exact val_ok (v := .bool true) (w' := w') (by go_simp) hG (Below.refl _ _) rfl
  · refine step_plain [10, 15] (by kernel_rfl) rfl fun us w' hG hV => ?_
    have e10 : us 10 = .bool true := hV 10 (by simp)
    have v10 := (frame_at2 (us := us) hl (show (slT[46]?).join = some 10 from rfl)).trans e10
    have e15 : us 15 = .bool true := hV 15 (by simp)
    have v15 := (frame_at2 (us := us) hl (show (slT[51]?).join = some 15 from rfl)).trans e15
    generalize frame slT a0 us = fr at *
    exact val_ok (v := .bool true) (w' := w') (by go_simp) hG (Below.refl _ _) rfl
  · refine step_plain [16] (by kernel_rfl) rfl fun us w' hG hV => ?_
    have e16 : us 16 = .bool true := hV 16 (by simp)
    have v16 := (frame_at2 (us := us) hl (show (slT[52]?).join = some 16 from rfl)).trans e16
    generalize frame slT a0 us = fr at *
    exact val_ok (v := .bool true) (w' := w') (by go_simp) hG (Below.refl _ _) rfl
  · refine step_guard [17] (by kernel_rfl) (j := 17) (t := 53) (b := true) rfl (by simp) rfl hl rfl (fun v w h => h) fun us w' hG hV => ?_
    have o4 := (frame_old2 (us := us) (a := a0) (show (slT[4]?).join = none from rfl)).trans k4
    have hg1 := (KP.out w' hG)
    generalize frame slT a0 us = fr at *
    exact load_ok 34 4 rfl ((w.heap.size + 1)) o4 _ _ (0, 0) _ hg1 Tryd.underlying34 rfl IP.out hG rfl
  · refine step_guard [17, 18] (by kernel_rfl) (j := 17) (t := 53) (b := true) rfl (by simp) rfl hl rfl (fun v w h => h) fun us w' hG hV => ?_
    have e18 : us 18 = .agg CP := hV 18 (by simp)
    have v18 := (frame_at2 (us := us) hl (show (slT[54]?).join = some 18 from rfl)).trans e18
    generalize frame slT a0 us = fr at *
    exact call_ok (f := 15) (args := #[.agg CP]) (by go_simp) ((CZ.out w' hG).mono fun e w'' h => ⟨_, h.1, hG.below h.2, h.2, rfl⟩)
  · refine step_guard [17] (by kernel_rfl) (j := 17) (t := 53) (b := true) rfl (by simp) rfl hl rfl (fun v w h => h) fun us w' hG hV => ?_
    have o4 := (frame_old2 (us := us) (a := a0) (show (slT[4]?).join = none from rfl)).trans k4
    have hg1 := (KP.out w' hG)
    generalize frame slT a0 us = fr at *
    exact load_ok 34 4 rfl ((w.heap.size + 1)) o4 _ _ (0, 0) _ hg1 Tryd.underlying34 rfl IP.out hG rfl
  · refine step_guard [17, 20] (by kernel_rfl) (j := 17) (t := 53) (b := true) rfl (by simp) rfl hl rfl (fun v w h => h) fun us w' hG hV => ?_
    have e20 : us 20 = .agg CP := hV 20 (by simp)
    have v20 := (frame_at2 (us := us) hl (show (slT[56]?).join = some 20 from rfl)).trans e20
    generalize frame slT a0 us = fr at *
    exact call_ok (f := 16) (args := #[.agg CP]) (by go_simp) ((DZ.out w' hG).mono fun e w'' h => ⟨_, h.1, hG.below h.2, h.2, rfl⟩)
  · refine step_guard [17, 19, 21] (by kernel_rfl) (j := 17) (t := 53) (b := true) rfl (by simp) rfl hl rfl (fun v w h => h) fun us w' hG hV => ?_
    have e19 : us 19 = .int .u32 ln := hV 19 (by simp)
    have v19 := (frame_at2 (us := us) hl (show (slT[55]?).join = some 19 from rfl)).trans e19
    have e21 : us 21 = .int .u32 ln := hV 21 (by simp)
    have v21 := (frame_at2 (us := us) hl (show (slT[57]?).join = some 21 from rfl)).trans e21
    generalize frame slT a0 us = fr at *
    exact val_ok (v := .bool true) (w' := w') (by go_simp) hG (Below.refl _ _) rfl
  · refine step_plain [17, 22] (by kernel_rfl) rfl fun us w' hG hV => ?_
    have e17 : us 17 = .bool true := hV 17 (by simp)
    have v17 := (frame_at2 (us := us) hl (show (slT[53]?).join = some 17 from rfl)).trans e17
    have e22 : us 22 = .bool true := hV 22 (by simp)
    have v22 := (frame_at2 (us := us) hl (show (slT[58]?).join = some 22 from rfl)).trans e22
    generalize frame slT a0 us = fr at *
    exact val_ok (v := .bool true) (w' := w') (by go_simp) hG (Below.refl _ _) rfl
  · refine step_plain [23] (by kernel_rfl) rfl fun us w' hG hV => ?_
    have e23 : us 23 = .bool true := hV 23 (by simp)
    have v23 := (frame_at2 (us := us) hl (show (slT[59]?).join = some 23 from rfl)).trans e23
    generalize frame slT a0 us = fr at *
    exact val_ok (v := .bool true) (w' := w') (by go_simp) hG (Below.refl _ _) rfl
  · refine step_guard [24] (by kernel_rfl) (j := 24) (t := 60) (b := true) rfl (by simp) rfl hl rfl (fun v w h => h) fun us w' hG hV => ?_
    have o4 := (frame_old2 (us := us) (a := a0) (show (slT[4]?).join = none from rfl)).trans k4
    have hg1 := (KP.out w' hG)
    generalize frame slT a0 us = fr at *
    exact load_ok 34 4 rfl ((w.heap.size + 1)) o4 _ _ (0, 0) _ hg1 Tryd.underlying34 rfl IP.out hG rfl
  · refine step_guard [24] (by kernel_rfl) (j := 24) (t := 60) (b := true) rfl (by simp) rfl hl rfl (fun v w h => h) fun us w' hG hV => ?_
    have o5 := (frame_old2 (us := us) (a := a0) (show (slT[5]?).join = none from rfl)).trans k5
    have hg1 := (KQ.out w' hG)
    generalize frame slT a0 us = fr at *
    exact load_ok 34 5 rfl ((w.heap.size + 2)) o5 _ _ (0, 0) _ hg1 Tryd.underlying34 rfl IQ.out hG rfl
  · refine step_guard [24, 25, 26] (by kernel_rfl) (j := 24) (t := 60) (b := true) rfl (by simp) rfl hl rfl (fun v w h => h) fun us w' hG hV => ?_
    have e25 : us 25 = .agg CP := hV 25 (by simp)
    have v25 := (frame_at2 (us := us) hl (show (slT[61]?).join = some 25 from rfl)).trans e25
    have e26 : us 26 = .agg CQ := hV 26 (by simp)
    have v26 := (frame_at2 (us := us) hl (show (slT[62]?).join = some 26 from rfl)).trans e26
    generalize frame slT a0 us = fr at *
    exact call_ok (f := 17) (args := #[.agg CP, .agg CQ]) (by go_simp) ((CS.out w' hG).mono fun e w'' h => ⟨_, h.1, hG.below h.2, h.2, rfl⟩)
  · refine step_guard [24] (by kernel_rfl) (j := 24) (t := 60) (b := true) rfl (by simp) rfl hl rfl (fun v w h => h) fun us w' hG hV => ?_
    have o4 := (frame_old2 (us := us) (a := a0) (show (slT[4]?).join = none from rfl)).trans k4
    have hg1 := (KP.out w' hG)
    generalize frame slT a0 us = fr at *
    exact load_ok 34 4 rfl ((w.heap.size + 1)) o4 _ _ (0, 0) _ hg1 Tryd.underlying34 rfl IP.out hG rfl
  · refine step_guard [24] (by kernel_rfl) (j := 24) (t := 60) (b := true) rfl (by simp) rfl hl rfl (fun v w h => h) fun us w' hG hV => ?_
    have o5 := (frame_old2 (us := us) (a := a0) (show (slT[5]?).join = none from rfl)).trans k5
    have hg1 := (KQ.out w' hG)
    generalize frame slT a0 us = fr at *
    exact load_ok 34 5 rfl ((w.heap.size + 2)) o5 _ _ (0, 0) _ hg1 Tryd.underlying34 rfl IQ.out hG rfl
  · refine step_guard [24, 28, 29] (by kernel_rfl) (j := 24) (t := 60) (b := true) rfl (by simp) rfl hl rfl (fun v w h => h) fun us w' hG hV => ?_
    have e28 : us 28 = .agg CP := hV 28 (by simp)
    have v28 := (frame_at2 (us := us) hl (show (slT[64]?).join = some 28 from rfl)).trans e28
    have e29 : us 29 = .agg CQ := hV 29 (by simp)
    have v29 := (frame_at2 (us := us) hl (show (slT[65]?).join = some 29 from rfl)).trans e29
    generalize frame slT a0 us = fr at *
    exact call_ok (f := 18) (args := #[.agg CP, .agg CQ]) (by go_simp) ((DS.out w' hG).mono fun e w'' h => ⟨_, h.1, hG.below h.2, h.2, rfl⟩)
  · refine step_guard [24, 27, 30] (by kernel_rfl) (j := 24) (t := 60) (b := true) rfl (by simp) rfl hl rfl (fun v w h => h) fun us w' hG hV => ?_
    have e27 : us 27 = .bool sm := hV 27 (by simp)
    have v27 := (frame_at2 (us := us) hl (show (slT[63]?).join = some 27 from rfl)).trans e27
    have e30 : us 30 = .bool sm := hV 30 (by simp)
    have v30 := (frame_at2 (us := us) hl (show (slT[66]?).join = some 30 from rfl)).trans e30
    generalize frame slT a0 us = fr at *
    exact val_ok (v := .bool true) (w' := w') (by go_simp) hG (Below.refl _ _) rfl
  · refine step_plain [24, 31] (by kernel_rfl) rfl fun us w' hG hV => ?_
    have e24 : us 24 = .bool true := hV 24 (by simp)
    have v24 := (frame_at2 (us := us) hl (show (slT[60]?).join = some 24 from rfl)).trans e24
    have e31 : us 31 = .bool true := hV 31 (by simp)
    have v31 := (frame_at2 (us := us) hl (show (slT[67]?).join = some 31 from rfl)).trans e31
    generalize frame slT a0 us = fr at *
    exact val_ok (v := .bool true) (w' := w') (by go_simp) hG (Below.refl _ _) rfl
  · refine step_plain [32] (by kernel_rfl) rfl fun us w' hG hV => ?_
    have e32 : us 32 = .bool true := hV 32 (by simp)
    have v32 := (frame_at2 (us := us) hl (show (slT[68]?).join = some 32 from rfl)).trans e32
    generalize frame slT a0 us = fr at *
    exact val_ok (v := .bool true) (w' := w') (by go_simp) hG (Below.refl _ _) rfl
  · refine step_guard [33] (by kernel_rfl) (j := 33) (t := 69) (b := true) rfl (by simp) rfl hl rfl (fun v w h => h) fun us w' hG hV => ?_
    have o4 := (frame_old2 (us := us) (a := a0) (show (slT[4]?).join = none from rfl)).trans k4
    have hg1 := (KP.out w' hG)
    generalize frame slT a0 us = fr at *
    exact load_ok 34 4 rfl ((w.heap.size + 1)) o4 _ _ (0, 0) _ hg1 Tryd.underlying34 rfl IP.out hG rfl
  · refine step_guard [33] (by kernel_rfl) (j := 33) (t := 69) (b := true) rfl (by simp) rfl hl rfl (fun v w h => h) fun us w' hG hV => ?_
    have o5 := (frame_old2 (us := us) (a := a0) (show (slT[5]?).join = none from rfl)).trans k5
    generalize frame slT a0 us = fr at *
    exact val_ok (v := .pointer (some ⟨(w.heap.size + 2), 4, none⟩)) (w' := w') (by go_simp) hG (Below.refl _ _) rfl
  · refine step_guard [33, 35] (by kernel_rfl) (j := 33) (t := 69) (b := true) rfl (by simp) rfl hl rfl (fun v w h => h) fun us w' hG hV => ?_
    have e35 : us 35 = .pointer (some ⟨(w.heap.size + 2), 4, none⟩) := hV 35 (by simp)
    have v35 := (frame_at2 (us := us) hl (show (slT[71]?).join = some 35 from rfl)).trans e35
    have hc := KF.out w' hG
    generalize frame slT a0 us = fr at *
    exact val_ok (v := .int .u8 tf) (w' := w') (by go_simp) hG (Below.refl _ _) rfl
  · refine step_guard [33, 34, 36] (by kernel_rfl) (j := 33) (t := 69) (b := true) rfl (by simp) rfl hl rfl (fun v w h => h) fun us w' hG hV => ?_
    have e34 : us 34 = .agg CP := hV 34 (by simp)
    have v34 := (frame_at2 (us := us) hl (show (slT[70]?).join = some 34 from rfl)).trans e34
    have e36 : us 36 = .int .u8 tf := hV 36 (by simp)
    have v36 := (frame_at2 (us := us) hl (show (slT[72]?).join = some 36 from rfl)).trans e36
    generalize frame slT a0 us = fr at *
    exact call_ok (f := 19) (args := #[.agg CP, .int .u8 tf]) (by go_simp) ((CH.out w' hG).mono fun e w'' h => ⟨_, h.1, hG.below h.2, h.2, rfl⟩)
  · refine step_guard [33] (by kernel_rfl) (j := 33) (t := 69) (b := true) rfl (by simp) rfl hl rfl (fun v w h => h) fun us w' hG hV => ?_
    have o4 := (frame_old2 (us := us) (a := a0) (show (slT[4]?).join = none from rfl)).trans k4
    have hg1 := (KP.out w' hG)
    generalize frame slT a0 us = fr at *
    exact load_ok 34 4 rfl ((w.heap.size + 1)) o4 _ _ (0, 0) _ hg1 Tryd.underlying34 rfl IP.out hG rfl
  · refine step_guard [33] (by kernel_rfl) (j := 33) (t := 69) (b := true) rfl (by simp) rfl hl rfl (fun v w h => h) fun us w' hG hV => ?_
    have o5 := (frame_old2 (us := us) (a := a0) (show (slT[5]?).join = none from rfl)).trans k5
    generalize frame slT a0 us = fr at *
    exact val_ok (v := .pointer (some ⟨(w.heap.size + 2), 4, none⟩)) (w' := w') (by go_simp) hG (Below.refl _ _) rfl
  · refine step_guard [33, 39] (by kernel_rfl) (j := 33) (t := 69) (b := true) rfl (by simp) rfl hl rfl (fun v w h => h) fun us w' hG hV => ?_
    have e39 : us 39 = .pointer (some ⟨(w.heap.size + 2), 4, none⟩) := hV 39 (by simp)
    have v39 := (frame_at2 (us := us) hl (show (slT[75]?).join = some 39 from rfl)).trans e39
    have hc := KF.out w' hG
    generalize frame slT a0 us = fr at *
    exact val_ok (v := .int .u8 tf) (w' := w') (by go_simp) hG (Below.refl _ _) rfl
  · refine step_guard [33, 38, 40] (by kernel_rfl) (j := 33) (t := 69) (b := true) rfl (by simp) rfl hl rfl (fun v w h => h) fun us w' hG hV => ?_
    have e38 : us 38 = .agg CP := hV 38 (by simp)
    have v38 := (frame_at2 (us := us) hl (show (slT[74]?).join = some 38 from rfl)).trans e38
    have e40 : us 40 = .int .u8 tf := hV 40 (by simp)
    have v40 := (frame_at2 (us := us) hl (show (slT[76]?).join = some 40 from rfl)).trans e40
    generalize frame slT a0 us = fr at *
    exact call_ok (f := 20) (args := #[.agg CP, .int .u8 tf]) (by go_simp) ((DH.out w' hG).mono fun e w'' h => ⟨_, h.1, hG.below h.2, h.2, rfl⟩)
  · refine step_guard [33, 37, 41] (by kernel_rfl) (j := 33) (t := 69) (b := true) rfl (by simp) rfl hl rfl (fun v w h => h) fun us w' hG hV => ?_
    have e37 : us 37 = .bool hs := hV 37 (by simp)
    have v37 := (frame_at2 (us := us) hl (show (slT[73]?).join = some 37 from rfl)).trans e37
    have e41 : us 41 = .bool hs := hV 41 (by simp)
    have v41 := (frame_at2 (us := us) hl (show (slT[77]?).join = some 41 from rfl)).trans e41
    generalize frame slT a0 us = fr at *
    exact val_ok (v := .bool true) (w' := w') (by go_simp) hG (Below.refl _ _) rfl
  · refine step_plain [33, 42] (by kernel_rfl) rfl fun us w' hG hV => ?_
    have e33 : us 33 = .bool true := hV 33 (by simp)
    have v33 := (frame_at2 (us := us) hl (show (slT[69]?).join = some 33 from rfl)).trans e33
    have e42 : us 42 = .bool true := hV 42 (by simp)
    have v42 := (frame_at2 (us := us) hl (show (slT[78]?).join = some 42 from rfl)).trans e42
    generalize frame slT a0 us = fr at *
    exact val_ok (v := .bool true) (w' := w') (by go_simp) hG (Below.refl _ _) rfl
  · refine step_plain [43] (by kernel_rfl) rfl fun us w' hG hV => ?_
    have e43 : us 43 = .bool true := hV 43 (by simp)
    have v43 := (frame_at2 (us := us) hl (show (slT[79]?).join = some 43 from rfl)).trans e43
    generalize frame slT a0 us = fr at *
    exact val_ok (v := .bool true) (w' := w') (by go_simp) hG (Below.refl _ _) rfl
  · refine step_guard [44] (by kernel_rfl) (j := 44) (t := 80) (b := true) rfl (by simp) rfl hl rfl (fun v w h => h) fun us w' hG hV => ?_
    generalize frame slT a0 us = fr at *
    exact call_ok (f := 10) (args := #[]) (by go_simp) ((AL.out w' hG).mono fun e w'' h => ⟨_, h.1, hG.below h.2, h.2, rfl⟩)
  · refine step_plain [44, 45] (by kernel_rfl) rfl fun us w' hG hV => ?_
    have e44 : us 44 = .bool true := hV 44 (by simp)
    have v44 := (frame_at2 (us := us) hl (show (slT[80]?).join = some 44 from rfl)).trans e44
    have e45 : us 45 = .bool true := hV 45 (by simp)
    have v45 := (frame_at2 (us := us) hl (show (slT[81]?).join = some 45 from rfl)).trans e45
    generalize frame slT a0 us = fr at *
    exact val_ok (v := .bool true) (w' := w') (by go_simp) hG (Below.refl _ _) rfl
  · refine step_plain [46] (by kernel_rfl) rfl fun us w' hG hV => ?_
    have e46 : us 46 = .bool true := hV 46 (by simp)
    have v46 := (frame_at2 (us := us) hl (show (slT[82]?).join = some 46 from rfl)).trans e46
    generalize frame slT a0 us = fr at *
    exact val_ok (v := .bool true) (w' := w') (by go_simp) hG (Below.refl _ _) rfl
  · intro us w5 hG hV
    have e9 : us 47 = .bool true := hV 47 (by decide)
    subst ha0
    simp only [frame, slT, fill]
    rw [e9]
    have HG := Lib.hid hG
    clear hV hl hG k4 k5 k7 k8 k9 k10 e9
    go_wp2_with fail
    go_ret
    exact ⟨rfl, HB_V.out.trans (Below.mono HG.out HB_V.out.size)⟩
end Go.Proofs.YtniimgbljhmcoaaDoor.sgC
