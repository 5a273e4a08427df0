/-
  1 texts of a proof, joined.
-/
import Derived.Test.YtapcjgmijcpfiaaDoorMg21
import Derived.Test.YtapcjgmijcpfiaaDoorMg18
import Derived.Test.YtapcjgmijcpfiaaDoorMg23

/-
  The walk of OptsLays.
-/
namespace Go.Proofs.YtapcjgmijcpfiaaDoor.opC
open Go.ChangeShapes Go.WideShapes Go.ChangeAt Go.RowKit
open Go.Proofs.YtapcjgmijcpfiaaDoor.memC Go.Proofs.YtapcjgmijcpfiaaDoor.genC Go.Proofs.YtapcjgmijcpfiaaDoor.butC Go.Proofs.YtapcjgmijcpfiaaDoor.freeC Go.Proofs.YtapcjgmijcpfiaaDoor.adC
open Go.Proofs.YtapcjgmijcpfiaaDoor.pkC (OwnE)
set_option linter.unusedVariables false
theorem seq_self {P : Program} {o : Oper} {a : Act} {w : World} {T : TypeId} {s x : Operand} {S : ByteArray} {R : TypeId} (ho : o.op = .binOp .eql T s x R) (hs : a.eval s = .string S) (hx : a.eval x = .string S) : (execOp a.eval o).run P w = .ok (.value (.bool true)) w :=
  seq_run ho hs hx (by simp)
theorem layX_byte {o : Opt} (ho : o.Ok) : ∀ x ∈ layX o, Byte x := by
  intro x hx
  unfold layX at hx
  split at hx
  · unfold layL at hx
    rcases List.mem_append.1 hx with h | h
    · rw [← preL_all] at h; exact preL_byte ho (Nat.le_refl 6) x h
    · rw [List.eq_of_mem_replicate h]; unfold Byte; omega
  · cases hx
def qwV (g0 g1 : Nat) (CP CQ : Array Value) (A1 A2 : Option Addr) (n1 c1 n2 c2 : Nat) (er : Int) (sz : Nat) (my sm : Bool) (SB : ByteArray) : Nat → Value → World → Prop
  | 0, v, _ => v = .slice A1 n1 c1
  | 1, v, _ => v = .string SB
  | 2, v, _ => v = .slice A2 n2 c2
  | 3, v, _ => v = .string SB
  | 4, v, _ => v = .bool true
  | 5, v, _ => v = .bool true
  | 6, v, _ => v = .int .i64 er
  | 7, v, _ => v = .int .i64 er
  | 8, v, _ => v = .bool true
  | 9, v, _ => v = .bool true
  | 10, v, _ => v = .bool true
  | 11, v, _ => v = .agg CP
  | 12, v, _ => v = .int .i64 (sz : Int)
  | 13, v, _ => v = .agg CP
  | 14, v, _ => v = .int .i64 (sz : Int)
  | 15, v, _ => v = .bool true
  | 16, v, _ => v = .bool true
  | 17, v, _ => v = .bool true
  | 18, v, _ => v = .agg CP
  | 19, v, _ => v = .bool my
  | 20, v, _ => v = .agg CP
  | 21, v, _ => v = .bool my
  | 22, v, _ => v = .bool true
  | 23, v, _ => v = .bool true
  | 24, v, _ => v = .bool true
  | 25, v, _ => v = .agg CP
  | 26, v, _ => v = .agg CQ
  | 27, v, _ => v = .bool sm
  | 28, v, _ => v = .agg CP
  | 29, v, _ => v = .agg CQ
  | 30, v, _ => v = .bool sm
  | 31, v, _ => v = .bool true
  | 32, v, _ => v = .bool true
  | 33, v, _ => v = .bool true
  | 34, v, _ => v = .agg CP
  | 35, v, _ => v = .agg CP
  | 36, v, _ => v = .bool true
  | 37, v, _ => v = .bool true
  | 38, v, _ => v = .bool true
  | 39, v, _ => v = .bool true
  | 40, v, _ => v = .bool true
  | 41, v, _ => v = .bool true
  | _, _, _ => True
theorem qwV.keep (g0 g1 : Nat) (CP CQ : Array Value) (A1 A2 : Option Addr) (n1 c1 n2 c2 : Nat) (er : Int) (sz : Nat) (my sm : Bool) (SB : ByteArray) (i : Nat) (v : Value) (w w' : World) (hb : Below w.heap.size w w') (h : qwV g0 g1 CP CQ A1 A2 n1 c1 n2 c2 er sz my sm SB i v w) : qwV g0 g1 CP CQ A1 A2 n1 c1 n2 c2 er sz my sm SB i v w' := by
  unfold qwV at h ⊢
  split at h <;> exact h
def qwT : List (Option Nat) := [none, none, none, none, some 41, none, none, none, none, none, none, none, none, none, none, none, none, none, none, none, none, none, none, none, none, none, some 0, some 1, some 2, some 3, some 4, some 5, some 6, some 7, some 8, some 9, some 10, some 11, some 12, some 13, some 14, some 15, some 16, some 17, some 18, some 19, some 20, some 21, some 22, some 23, some 24, some 25, some 26, some 27, some 28, some 29, some 30, some 31, some 32, some 33, some 34, some 35, some 36, some 37, some 38, some 39, some 40]
set_option maxRecDepth 100000 in
set_option maxHeartbeats 8000000 in
theorem lays_walk (p q : Opt) (A B : Option Addr) (n c m d : Nat) (w : World) (hk : Kd w) (hp : p.Ok) (hq : q.Ok) (ln : p.sk.length = n) (lm : q.sk.length = m) (hx : Prs w w.heap.size A n p.sk) (hy : Prs w w.heap.size B m q.sk) :
    Calls Tryd.prog 3 #[.agg (optV p A n c), .agg (optV q B m d)] w (Ret w (.bool true)) := by
  have e1 : (w.alloc (.cells (optV p A n c) 27)).heap.size = w.heap.size + 1 := alloc_size _ _
  obtain ⟨W, hW⟩ : ∃ W, W = (w.alloc (.cells (optV p A n c) 27)).alloc (.cells (optV q B m d) 27) := ⟨_, rfl⟩
  have R0_W := Lib.hid (show W.heap[w.heap.size]? = some (.cells (optV p A n c) 27 (0, 0)) by rw [hW, Below.block (alloc_below _ _) _ (by rw [e1]; omega)]; exact heap_alloc_new w _)
  have R1_W := Lib.hid (show W.heap[w.heap.size + 1]? = some (.cells (optV q B m d) 27 (0, 0)) by rw [hW, ← e1]; exact heap_alloc_new _ _)
  have HB_W := Lib.hid (show Below w.heap.size w W by rw [hW]; exact ((Below.refl _ _).alloc (Nat.le_refl _) _).alloc (by simp) _)
  have IP := Lib.hid (optC hp.lm A n c).info
  have IQ := Lib.hid (optC hq.lm B m d).info
  have PX := fun (w' : World) (h : Below w.heap.size w w') => (hx.below h).more h.size
  have PY := fun (w' : World) (h : Below w.heap.size w w') => (hy.below h).more h.size
  have LC := Lib.hid (fun (w' : World) (h : Below w.heap.size w w') (hf : n ≤ 500) => clay_any p A n c w' (hk.below h hk.lt) hp ln (PX w' h) (by omega))
  have LD := Lib.hid (fun (w' : World) (h : Below w.heap.size w w') (hf : n ≤ 500) => rlay_any p A n c w' hp ln (PX w' h) (by omega))
  have F0 := Lib.hid (fun w' => far_any p A n c w' hp.lm)
  have F1 := Lib.hid (fun w' => far_any q B m d w' hq.lm)
  have CZ0 := Lib.hid (fun (w' : World) (h : Below w.heap.size w w') (hf : n ≤ 500) => csize_any p A n c w' (hk.below h hk.lt) hp.lm ln (by omega))
  have DZ0 := Lib.hid (fun (w' : World) (h : Below w.heap.size w w') (hf : n ≤ 500) => rsize_any p A n c w' hp ln (PX w' h) (by omega))
  have CM0 := Lib.hid (fun (w' : World) (h : Below w.heap.size w w') (hf : n ≤ 500) => cmay_any p A n c w' (hk.below h hk.lt) hp.lm ln (by omega))
  have DM0 := Lib.hid (fun (w' : World) (h : Below w.heap.size w w') (hf : n ≤ 500) => rmay_any p A n c w' hp ln (PX w' h) (by omega))
  have CS0 := Lib.hid (fun (w' : World) (h : Below w.heap.size w w') (hf : n ≤ 500) (hg : m ≤ 500) => csame_any p q A B n c m d w' hp.lm hq.lm (PX w' h) (PY w' h) (by omega) (by omega))
  have DS0 := Lib.hid (fun (w' : World) (h : Below w.heap.size w w') (hf : n ≤ 500) (hg : m ≤ 500) => rsame_any p q A B n c m d w' hp.lm hq.lm (PX w' h) (PY w' h) (by omega) (by omega))
  have CT0 := Lib.hid (fun (w' : World) (h : Below w.heap.size w w') (hf : n ≤ 500) => (show Calls Tryd.prog 16 #[.agg (optV p A n c), .agg (optV p A n c)] w' (Ret w' (.bool true)) by
    have h2 := csame_any p p A A n c n c w' hp.lm hp.lm (PX w' h) (PX w' h) (by omega) (by omega)
    rw [sameB_self] at h2
    exact h2))
  have AL0 := Lib.hid (fun (w' : World) (h : Below w.heap.size w w') => alive_any w' (hk.below h hk.lt))
  generalize mayB p = my at *
  generalize sameB p q = sm at *
  generalize layE p = er at *
  generalize sizeN p = sz at *
  obtain ⟨BS, hBS⟩ : ∃ L, L = layX p := ⟨_, rfl⟩
  rw [← hBS] at LC LD
  obtain ⟨f0, hf0⟩ : ∃ f0, farB n = f0 := ⟨_, rfl⟩
  obtain ⟨f1, hf1⟩ : ∃ f1, farB m = f1 := ⟨_, rfl⟩
  rw [hf0] at F0
  rw [hf1] at F1
  have HF0 := Lib.hid hf0
  have HF1 := Lib.hid hf1
  generalize optV p A n c = CP at *
  generalize optV q B m d = CQ at *
  clear PX PY hk hp hq hx hy ln lm hBS hf0 hf1 e1
  cases f0
  rotate_left
  · go_enter Tryd.func3, Tryd.ntmps3
    try simp only [List.append_eq, List.cons_append, List.nil_append]
    go_upto_region 1 with fail
    rw [← hW]
    clear hW
    go_wp2_with (first
      | go_skip
      | (with_reducible refine atC.at_load 27 2 ?_; refine wpList_load_rowG (by kernel_rfl) 27 (.tmp 2) rfl w.heap.size (by kernel_rfl) _ _ _ _ R0_W.out Tryd.underlying27 rfl IP.out ?_)
      | (with_reducible refine atC.at_load 27 3 ?_; refine wpList_load_rowG (by kernel_rfl) 27 (.tmp 3) rfl (w.heap.size + 1) (by kernel_rfl) _ _ _ _ R1_w2.out Tryd.underlying27 rfl IQ.out ?_)
      | (go_at_call 8; (with_reducible refine (F0.out _).mono ?_); rintro e w2 ⟨rfl, B2⟩
         have HB_w2 := Lib.hid (HB_W.out.trans (B2.mono HB_W.out.size))
         have R0_w2 := Lib.hid (gr_rowO (w := W) (w' := w2) B2 R0_W.out)
         have R1_w2 := Lib.hid (gr_rowO (w := W) (w' := w2) B2 R1_W.out)
         clear B2)
      | (go_at_call 8; (with_reducible refine (F1.out _).mono ?_); rintro e w3 ⟨rfl, B3⟩
         have HB_w3 := Lib.hid (HB_w2.out.trans (B3.mono HB_w2.out.size))
         have R0_w3 := Lib.hid (gr_rowO (w := w2) (w' := w3) B3 R0_w2.out)
         have R1_w3 := Lib.hid (gr_rowO (w := w2) (w' := w3) B3 R1_w2.out)
         clear B3)
      | (go_at_call 9; (refine (AL0.out _ HB_w2.out).mono ?_); rintro e w5 ⟨rfl, BB⟩
         have HB_w5 := Lib.hid (HB_w2.out.trans (BB.mono HB_w2.out.size))
         clear BB))
    go_ret
    exact ⟨rfl, HB_w5.out⟩
  cases f1
  rotate_left
  · go_enter Tryd.func3, Tryd.ntmps3
    try simp only [List.append_eq, List.cons_append, List.nil_append]
    go_upto_region 1 with fail
    rw [← hW]
    clear hW
    go_wp2_with (first
      | go_skip
      | (with_reducible refine atC.at_load 27 2 ?_; refine wpList_load_rowG (by kernel_rfl) 27 (.tmp 2) rfl w.heap.size (by kernel_rfl) _ _ _ _ R0_W.out Tryd.underlying27 rfl IP.out ?_)
      | (with_reducible refine atC.at_load 27 3 ?_; refine wpList_load_rowG (by kernel_rfl) 27 (.tmp 3) rfl (w.heap.size + 1) (by kernel_rfl) _ _ _ _ R1_w2.out Tryd.underlying27 rfl IQ.out ?_)
      | (go_at_call 8; (with_reducible refine (F0.out _).mono ?_); rintro e w2 ⟨rfl, B2⟩
         have HB_w2 := Lib.hid (HB_W.out.trans (B2.mono HB_W.out.size))
         have R0_w2 := Lib.hid (gr_rowO (w := W) (w' := w2) B2 R0_W.out)
         have R1_w2 := Lib.hid (gr_rowO (w := W) (w' := w2) B2 R1_W.out)
         clear B2)
      | (go_at_call 8; (with_reducible refine (F1.out _).mono ?_); rintro e w3 ⟨rfl, B3⟩
         have HB_w3 := Lib.hid (HB_w2.out.trans (B3.mono HB_w2.out.size))
         have R0_w3 := Lib.hid (gr_rowO (w := w2) (w' := w3) B3 R0_w2.out)
         have R1_w3 := Lib.hid (gr_rowO (w := w2) (w' := w3) B3 R1_w2.out)
         clear B3)
      | (go_at_call 9; (refine (AL0.out _ HB_w3.out).mono ?_); rintro e w5 ⟨rfl, BB⟩
         have HB_w5 := Lib.hid (HB_w3.out.trans (BB.mono HB_w3.out.size))
         clear BB))
    go_ret
    exact ⟨rfl, HB_w5.out⟩
  have hf5 := Lib.hid (show n ≤ 500 by have h := HF0.out; unfold farB at h; have := of_decide_eq_false h; omega)
  have hf6 := Lib.hid (show m ≤ 500 by have h := HF1.out; unfold farB at h; have := of_decide_eq_false h; omega)
  go_enter Tryd.func3, Tryd.ntmps3
  try simp only [List.append_eq, List.cons_append, List.nil_append]
  go_upto_region 1 with fail
  rw [← hW]
  clear hW
  go_upto_region 3 with (first
    | go_skip
    | (with_reducible refine atC.at_load 27 2 ?_; refine wpList_load_rowG (by kernel_rfl) 27 (.tmp 2) rfl w.heap.size (by kernel_rfl) _ _ _ _ R0_W.out Tryd.underlying27 rfl IP.out ?_)
    | (with_reducible refine atC.at_load 27 3 ?_; refine wpList_load_rowG (by kernel_rfl) 27 (.tmp 3) rfl (w.heap.size + 1) (by kernel_rfl) _ _ _ _ R1_w2.out Tryd.underlying27 rfl IQ.out ?_)
    | (go_at_call 8; (with_reducible refine (F0.out _).mono ?_); rintro e w2 ⟨rfl, B2⟩
       have HB_w2 := Lib.hid (HB_W.out.trans (B2.mono HB_W.out.size))
       have R0_w2 := Lib.hid (gr_rowO (w := W) (w' := w2) B2 R0_W.out)
       have R1_w2 := Lib.hid (gr_rowO (w := W) (w' := w2) B2 R1_W.out)
       clear B2)
    | (go_at_call 8; (with_reducible refine (F1.out _).mono ?_); rintro e w3 ⟨rfl, B3⟩
       have HB_w3 := Lib.hid (HB_w2.out.trans (B3.mono HB_w2.out.size))
       have R0_w3 := Lib.hid (gr_rowO (w := w2) (w' := w3) B3 R0_w2.out)
       have R1_w3 := Lib.hid (gr_rowO (w := w2) (w' := w3) B3 R1_w2.out)
       clear B3))
  clear F0 F1 HF0 HF1 R0_W R1_W R0_w2 R1_w2
  go_upto_region 4 with (first
    | (refine wpList_load_rowG (by kernel_rfl) 27 (.tmp 2) rfl w.heap.size (by kernel_rfl) _ _ _ _ R0_w3.out Tryd.underlying27 rfl IP.out ?_)
    | (go_at_call 10; (refine (LC.out _ HB_w3.out hf5.out).mono ?_); rintro e W2 ⟨A1, n1, c1, rfl, O1, BB⟩
       have N1 := Lib.hid O1.nums
       have HB_W2 := Lib.hid (HB_w3.out.trans (BB.mono HB_w3.out.size))
       have R0_W2 := Lib.hid (gr_rowO (w := w3) (w' := W2) BB R0_w3.out)
       have R1_W2 := Lib.hid (gr_rowO (w := w3) (w' := W2) BB R1_w3.out)
       clear BB O1))
  clear R0_w3 R1_w3
  go_upto_region 5 with (first
    | (refine wpList_load_rowG (by kernel_rfl) 27 (.tmp 2) rfl w.heap.size (by kernel_rfl) _ _ _ _ R0_W2.out Tryd.underlying27 rfl IP.out ?_)
    | (go_at_call 11; (refine (LD.out _ HB_W2.out hf5.out).mono ?_); rintro e V ⟨A2, n2, c2, rfl, O2, BB⟩
       have N1v := Lib.hid ((N1.out.below BB).more BB.size)
       have N2v := Lib.hid O2.nums
       have HB_V := Lib.hid (HB_W2.out.trans (BB.mono HB_W2.out.size))
       have R0_V := Lib.hid (gr_rowO (w := W2) (w' := V) BB R0_W2.out)
       have R1_V := Lib.hid (gr_rowO (w := W2) (w' := V) BB R1_W2.out)
       clear BB O2))
  clear N1 R0_W2 R1_W2
  obtain ⟨SB, hSB⟩ : ∃ S, S = strOfNums BS := ⟨_, rfl⟩
  have CV1 := Lib.hid (fun w' (h : Gr V w') => (show (convert 30 9 (.slice A1 n1 c1)).run Tryd.prog w' = .ok (.string SB) w' by rw [hSB]; exact run_string (N1v.out.below h) c1 30 5 9 Tryd.underlying30 Tryd.underlying5 Tryd.underlying9))
  have CV2 := Lib.hid (fun w' (h : Gr V w') => (show (convert 30 9 (.slice A2 n2 c2)).run Tryd.prog w' = .ok (.string SB) w' by rw [hSB]; exact run_string (N2v.out.below h) c2 30 5 9 Tryd.underlying30 Tryd.underlying5 Tryd.underlying9))
  have GV := Lib.hid (fun (w' : World) (h : Gr V w') => HB_V.out.trans (Below.mono h HB_V.out.size))
  have CZ := Lib.hid (fun w' (h : Gr V w') => CZ0.out w' (GV.out w' h) hf5.out)
  have DZ := Lib.hid (fun w' (h : Gr V w') => DZ0.out w' (GV.out w' h) hf5.out)
  have CM := Lib.hid (fun w' (h : Gr V w') => CM0.out w' (GV.out w' h) hf5.out)
  have DM := Lib.hid (fun w' (h : Gr V w') => DM0.out w' (GV.out w' h) hf5.out)
  have CS := Lib.hid (fun w' (h : Gr V w') => CS0.out w' (GV.out w' h) hf5.out hf6.out)
  have DS := Lib.hid (fun w' (h : Gr V w') => DS0.out w' (GV.out w' h) hf5.out hf6.out)
  have CT := Lib.hid (fun w' (h : Gr V w') => CT0.out w' (GV.out w' h) hf5.out)
  have AL := Lib.hid (fun w' (h : Gr V w') => AL0.out w' (GV.out w' h))
  clear CS0 DS0 CT0 LC LD hSB N1v N2v CZ0 DZ0 CM0 DM0 AL0 GV
  refine with_act fun a0 ha0 => ?_
  have hl : qwT.length = a0.tmps.size := by rw [ha0]; rfl
  have k2 : a0.tmps[2]?.getD undef = .pointer (some ⟨w.heap.size, 0, none⟩) := by rw [ha0]; rfl
  have k3 : a0.tmps[3]?.getD undef = .pointer (some ⟨(w.heap.size + 1), 0, none⟩) := by rw [ha0]; rfl
  have k5 : a0.tmps[5]?.getD undef = .slice A1 n1 c1 := by rw [ha0]; rfl
  have k6 : a0.tmps[6]?.getD undef = .int .i64 er := by rw [ha0]; rfl
  have k7 : a0.tmps[7]?.getD undef = .slice A2 n2 c2 := by rw [ha0]; rfl
  have k8 : a0.tmps[8]?.getD undef = .int .i64 er := by rw [ha0]; rfl
  refine wp_region_vals (by kernel_rfl) qwT (by kernel_rfl) (by kernel_rfl) hl (fun i => if i = 41 then .bool false else undef) (by rw [ha0]; rfl) (Gr V) (qwV w.heap.size (w.heap.size + 1) CP CQ A1 A2 n1 c1 n2 c2 er sz my sm SB) (gr_drewG _ _) (qwV.keep _ _ _ _ _ _ _ _ _ _ _ _ _ _ _) ⟨?_, ?_, ?_, ?_, ?_, ?_, ?_, ?_, ?_, ?_, ?_, ?_, ?_, ?_, ?_, ?_, ?_, ?_, ?_, ?_, ?_, ?_, ?_, ?_, ?_, ?_, ?_, ?_, ?_, ?_, ?_, ?_, ?_, ?_, ?_, ?_, ?_, ?_, ?_, ?_, ?_, ?_, trivial⟩ ?_
  · refine step_plain [] (by kernel_rfl) rfl fun us w' hG hV => ?_
    have o5 := (frame_old2 (us := us) (a := a0) (show (qwT[5]?).join = none from rfl)).trans k5
    generalize frame qwT a0 us = fr at *
    exact val_ok (v := .slice A1 n1 c1) (w' := w') (by go_simp) hG (Below.refl _ _) rfl
  · refine step_plain [0] (by kernel_rfl) rfl fun us w' hG hV => ?_
    have e0 : us 0 = .slice A1 n1 c1 := hV 0 (by simp)
    have v0 := (frame_at2 (us := us) hl (show (qwT[26]?).join = some 0 from rfl)).trans e0
    have hcv := CV1.out w' hG
    generalize frame qwT a0 us = fr at *
    exact val_ok (v := .string SB) (w' := w') (by go_simp) hG (Below.refl _ _) rfl
  · refine step_plain [] (by kernel_rfl) rfl fun us w' hG hV => ?_
    have o7 := (frame_old2 (us := us) (a := a0) (show (qwT[7]?).join = none from rfl)).trans k7
    generalize frame qwT a0 us = fr at *
    exact val_ok (v := .slice A2 n2 c2) (w' := w') (by go_simp) hG (Below.refl _ _) rfl
  · refine step_plain [2] (by kernel_rfl) rfl fun us w' hG hV => ?_
    have e2 : us 2 = .slice A2 n2 c2 := hV 2 (by simp)
    have v2 := (frame_at2 (us := us) hl (show (qwT[28]?).join = some 2 from rfl)).trans e2
    have hcv := CV2.out w' hG
    generalize frame qwT a0 us = fr at *
    exact val_ok (v := .string SB) (w' := w') (by go_simp) hG (Below.refl _ _) rfl
  · refine step_plain [1, 3] (by kernel_rfl) rfl fun us w' hG hV => ?_
    have e1 : us 1 = .string SB := hV 1 (by simp)
    have v1 := (frame_at2 (us := us) hl (show (qwT[27]?).join = some 1 from rfl)).trans e1
    have e3 : us 3 = .string SB := hV 3 (by simp)
    have v3 := (frame_at2 (us := us) hl (show (qwT[29]?).join = some 3 from rfl)).trans e3
    generalize frame qwT a0 us = fr at *
    exact val_ok (v := .bool true) (w' := w') (seq_self (S := SB) (a := fr) rfl (by simpa only [Act.eval, Array.getD_eq_getD_getElem?] using v1) (by simpa only [Act.eval, Array.getD_eq_getD_getElem?] using v3)) hG (Below.refl _ _) rfl
  · refine step_plain [4] (by kernel_rfl) rfl fun us w' hG hV => ?_
    have e4 : us 4 = .bool true := hV 4 (by simp)
    have v4 := (frame_at2 (us := us) hl (show (qwT[30]?).join = some 4 from rfl)).trans e4
    generalize frame qwT a0 us = fr at *
    exact val_ok (v := .bool true) (w' := w') (by go_simp) hG (Below.refl _ _) rfl
  · refine step_guard [5] (by kernel_rfl) (j := 5) (t := 31) (b := true) rfl (by simp) rfl hl rfl (fun v w h => h) fun us w' hG hV => ?_
    have o6 := (frame_old2 (us := us) (a := a0) (show (qwT[6]?).join = none from rfl)).trans k6
    generalize frame qwT a0 us = fr at *
    exact val_ok (v := .int .i64 er) (w' := w') (by go_simp) hG (Below.refl _ _) rfl
  · refine step_guard [5] (by kernel_rfl) (j := 5) (t := 31) (b := true) rfl (by simp) rfl hl rfl (fun v w h => h) fun us w' hG hV => ?_
    have o8 := (frame_old2 (us := us) (a := a0) (show (qwT[8]?).join = none from rfl)).trans k8
    generalize frame qwT a0 us = fr at *
    exact val_ok (v := .int .i64 er) (w' := w') (by go_simp) hG (Below.refl _ _) rfl
  · refine step_guard [5, 6, 7] (by kernel_rfl) (j := 5) (t := 31) (b := true) rfl (by simp) rfl hl rfl (fun v w h => h) fun us w' hG hV => ?_
    have e6 : us 6 = .int .i64 er := hV 6 (by simp)
    have v6 := (frame_at2 (us := us) hl (show (qwT[32]?).join = some 6 from rfl)).trans e6
    have e7 : us 7 = .int .i64 er := hV 7 (by simp)
    have v7 := (frame_at2 (us := us) hl (show (qwT[33]?).join = some 7 from rfl)).trans e7
    generalize frame qwT a0 us = fr at *
    exact val_ok (v := .bool true) (w' := w') (by go_simp) hG (Below.refl _ _) rfl
  · refine step_plain [5, 8] (by kernel_rfl) rfl fun us w' hG hV => ?_
    have e5 : us 5 = .bool true := hV 5 (by simp)
    have v5 := (frame_at2 (us := us) hl (show (qwT[31]?).join = some 5 from rfl)).trans e5
    have e8 : us 8 = .bool true := hV 8 (by simp)
    have v8 := (frame_at2 (us := us) hl (show (qwT[34]?).join = some 8 from rfl)).trans e8
    generalize frame qwT a0 us = fr at *
    exact val_ok (v := .bool true) (w' := w') (by go_simp) hG (Below.refl _ _) rfl
  · refine step_plain [9] (by kernel_rfl) rfl fun us w' hG hV => ?_
    have e9 : us 9 = .bool true := hV 9 (by simp)
    have v9 := (frame_at2 (us := us) hl (show (qwT[35]?).join = some 9 from rfl)).trans e9
    generalize frame qwT a0 us = fr at *
    exact val_ok (v := .bool true) (w' := w') (by go_simp) hG (Below.refl _ _) rfl
  · refine step_guard [10] (by kernel_rfl) (j := 10) (t := 36) (b := true) rfl (by simp) rfl hl rfl (fun v w h => h) fun us w' hG hV => ?_
    have o2 := (frame_old2 (us := us) (a := a0) (show (qwT[2]?).join = none from rfl)).trans k2
    have hg1 := gr_rowO hG R0_V.out
    generalize frame qwT a0 us = fr at *
    exact load_ok 27 2 rfl (w.heap.size) o2 _ _ (0, 0) _ hg1 Tryd.underlying27 rfl IP.out hG rfl
  · refine step_guard [10, 11] (by kernel_rfl) (j := 10) (t := 36) (b := true) rfl (by simp) rfl hl rfl (fun v w h => h) fun us w' hG hV => ?_
    have e11 : us 11 = .agg CP := hV 11 (by simp)
    have v11 := (frame_at2 (us := us) hl (show (qwT[37]?).join = some 11 from rfl)).trans e11
    generalize frame qwT a0 us = fr at *
    exact call_ok (f := 12) (args := #[.agg CP]) (by go_simp) ((CZ.out w' hG).mono fun e w'' h => ⟨_, h.1, hG.below h.2, h.2, rfl⟩)
  · refine step_guard [10] (by kernel_rfl) (j := 10) (t := 36) (b := true) rfl (by simp) rfl hl rfl (fun v w h => h) fun us w' hG hV => ?_
    have o2 := (frame_old2 (us := us) (a := a0) (show (qwT[2]?).join = none from rfl)).trans k2
    have hg1 := gr_rowO hG R0_V.out
    generalize frame qwT a0 us = fr at *
    exact load_ok 27 2 rfl (w.heap.size) o2 _ _ (0, 0) _ hg1 Tryd.underlying27 rfl IP.out hG rfl
  · refine step_guard [10, 13] (by kernel_rfl) (j := 10) (t := 36) (b := true) rfl (by simp) rfl hl rfl (fun v w h => h) fun us w' hG hV => ?_
    have e13 : us 13 = .agg CP := hV 13 (by simp)
    have v13 := (frame_at2 (us := us) hl (show (qwT[39]?).join = some 13 from rfl)).trans e13
    generalize frame qwT a0 us = fr at *
    exact call_ok (f := 13) (args := #[.agg CP]) (by go_simp) ((DZ.out w' hG).mono fun e w'' h => ⟨_, h.1, hG.below h.2, h.2, rfl⟩)
  · refine step_guard [10, 12, 14] (by kernel_rfl) (j := 10) (t := 36) (b := true) rfl (by simp) rfl hl rfl (fun v w h => h) fun us w' hG hV => ?_
    have e12 : us 12 = .int .i64 (sz : Int) := hV 12 (by simp)
    have v12 := (frame_at2 (us := us) hl (show (qwT[38]?).join = some 12 from rfl)).trans e12
    have e14 : us 14 = .int .i64 (sz : Int) := hV 14 (by simp)
    have v14 := (frame_at2 (us := us) hl (show (qwT[40]?).join = some 14 from rfl)).trans e14
    generalize frame qwT a0 us = fr at *
    exact val_ok (v := .bool true) (w' := w') (by go_simp) hG (Below.refl _ _) rfl
  · refine step_plain [10, 15] (by kernel_rfl) rfl fun us w' hG hV => ?_
    have e10 : us 10 = .bool true := hV 10 (by simp)
    have v10 := (frame_at2 (us := us) hl (show (qwT[36]?).join = some 10 from rfl)).trans e10
    have e15 : us 15 = .bool true := hV 15 (by simp)
    have v15 := (frame_at2 (us := us) hl (show (qwT[41]?).join = some 15 from rfl)).trans e15
    generalize frame qwT a0 us = fr at *
    exact val_ok (v := .bool true) (w' := w') (by go_simp) hG (Below.refl _ _) rfl
  · refine step_plain [16] (by kernel_rfl) rfl fun us w' hG hV => ?_
    have e16 : us 16 = .bool true := hV 16 (by simp)
    have v16 := (frame_at2 (us := us) hl (show (qwT[42]?).join = some 16 from rfl)).trans e16
    generalize frame qwT a0 us = fr at *
    exact val_ok (v := .bool true) (w' := w') (by go_simp) hG (Below.refl _ _) rfl
  · refine step_guard [17] (by kernel_rfl) (j := 17) (t := 43) (b := true) rfl (by simp) rfl hl rfl (fun v w h => h) fun us w' hG hV => ?_
    have o2 := (frame_old2 (us := us) (a := a0) (show (qwT[2]?).join = none from rfl)).trans k2
    have hg1 := gr_rowO hG R0_V.out
    generalize frame qwT a0 us = fr at *
    exact load_ok 27 2 rfl (w.heap.size) o2 _ _ (0, 0) _ hg1 Tryd.underlying27 rfl IP.out hG rfl
  · refine step_guard [17, 18] (by kernel_rfl) (j := 17) (t := 43) (b := true) rfl (by simp) rfl hl rfl (fun v w h => h) fun us w' hG hV => ?_
    have e18 : us 18 = .agg CP := hV 18 (by simp)
    have v18 := (frame_at2 (us := us) hl (show (qwT[44]?).join = some 18 from rfl)).trans e18
    generalize frame qwT a0 us = fr at *
    exact call_ok (f := 14) (args := #[.agg CP]) (by go_simp) ((CM.out w' hG).mono fun e w'' h => ⟨_, h.1, hG.below h.2, h.2, rfl⟩)
  · refine step_guard [17] (by kernel_rfl) (j := 17) (t := 43) (b := true) rfl (by simp) rfl hl rfl (fun v w h => h) fun us w' hG hV => ?_
    have o2 := (frame_old2 (us := us) (a := a0) (show (qwT[2]?).join = none from rfl)).trans k2
    have hg1 := gr_rowO hG R0_V.out
    generalize frame qwT a0 us = fr at *
    exact load_ok 27 2 rfl (w.heap.size) o2 _ _ (0, 0) _ hg1 Tryd.underlying27 rfl IP.out hG rfl
  · refine step_guard [17, 20] (by kernel_rfl) (j := 17) (t := 43) (b := true) rfl (by simp) rfl hl rfl (fun v w h => h) fun us w' hG hV => ?_
    have e20 : us 20 = .agg CP := hV 20 (by simp)
    have v20 := (frame_at2 (us := us) hl (show (qwT[46]?).join = some 20 from rfl)).trans e20
    generalize frame qwT a0 us = fr at *
    exact call_ok (f := 15) (args := #[.agg CP]) (by go_simp) ((DM.out w' hG).mono fun e w'' h => ⟨_, h.1, hG.below h.2, h.2, rfl⟩)
  · refine step_guard [17, 19, 21] (by kernel_rfl) (j := 17) (t := 43) (b := true) rfl (by simp) rfl hl rfl (fun v w h => h) fun us w' hG hV => ?_
    have e19 : us 19 = .bool my := hV 19 (by simp)
    have v19 := (frame_at2 (us := us) hl (show (qwT[45]?).join = some 19 from rfl)).trans e19
    have e21 : us 21 = .bool my := hV 21 (by simp)
    have v21 := (frame_at2 (us := us) hl (show (qwT[47]?).join = some 21 from rfl)).trans e21
    generalize frame qwT a0 us = fr at *
    exact val_ok (v := .bool true) (w' := w') (by go_simp) hG (Below.refl _ _) rfl
  · refine step_plain [17, 22] (by kernel_rfl) rfl fun us w' hG hV => ?_
    have e17 : us 17 = .bool true := hV 17 (by simp)
    have v17 := (frame_at2 (us := us) hl (show (qwT[43]?).join = some 17 from rfl)).trans e17
    have e22 : us 22 = .bool true := hV 22 (by simp)
    have v22 := (frame_at2 (us := us) hl (show (qwT[48]?).join = some 22 from rfl)).trans e22
    generalize frame qwT a0 us = fr at *
    exact val_ok (v := .bool true) (w' := w') (by go_simp) hG (Below.refl _ _) rfl
  · refine step_plain [23] (by kernel_rfl) rfl fun us w' hG hV => ?_
    have e23 : us 23 = .bool true := hV 23 (by simp)
    have v23 := (frame_at2 (us := us) hl (show (qwT[49]?).join = some 23 from rfl)).trans e23
    generalize frame qwT a0 us = fr at *
    exact val_ok (v := .bool true) (w' := w') (by go_simp) hG (Below.refl _ _) rfl
  · refine step_guard [24] (by kernel_rfl) (j := 24) (t := 50) (b := true) rfl (by simp) rfl hl rfl (fun v w h => h) fun us w' hG hV => ?_
    have o2 := (frame_old2 (us := us) (a := a0) (show (qwT[2]?).join = none from rfl)).trans k2
    have hg1 := gr_rowO hG R0_V.out
    generalize frame qwT a0 us = fr at *
    exact load_ok 27 2 rfl (w.heap.size) o2 _ _ (0, 0) _ hg1 Tryd.underlying27 rfl IP.out hG rfl
  · refine step_guard [24] (by kernel_rfl) (j := 24) (t := 50) (b := true) rfl (by simp) rfl hl rfl (fun v w h => h) fun us w' hG hV => ?_
    have o3 := (frame_old2 (us := us) (a := a0) (show (qwT[3]?).join = none from rfl)).trans k3
    have hg1 := gr_rowO hG R1_V.out
    generalize frame qwT a0 us = fr at *
    exact load_ok 27 3 rfl ((w.heap.size + 1)) o3 _ _ (0, 0) _ hg1 Tryd.underlying27 rfl IQ.out hG rfl
  · refine step_guard [24, 25, 26] (by kernel_rfl) (j := 24) (t := 50) (b := true) rfl (by simp) rfl hl rfl (fun v w h => h) fun us w' hG hV => ?_
    have e25 : us 25 = .agg CP := hV 25 (by simp)
    have v25 := (frame_at2 (us := us) hl (show (qwT[51]?).join = some 25 from rfl)).trans e25
    have e26 : us 26 = .agg CQ := hV 26 (by simp)
    have v26 := (frame_at2 (us := us) hl (show (qwT[52]?).join = some 26 from rfl)).trans e26
    generalize frame qwT a0 us = fr at *
    exact call_ok (f := 16) (args := #[.agg CP, .agg CQ]) (by go_simp) ((CS.out w' hG).mono fun e w'' h => ⟨_, h.1, hG.below h.2, h.2, rfl⟩)
  · refine step_guard [24] (by kernel_rfl) (j := 24) (t := 50) (b := true) rfl (by simp) rfl hl rfl (fun v w h => h) fun us w' hG hV => ?_
    have o2 := (frame_old2 (us := us) (a := a0) (show (qwT[2]?).join = none from rfl)).trans k2
    have hg1 := gr_rowO hG R0_V.out
    generalize frame qwT a0 us = fr at *
    exact load_ok 27 2 rfl (w.heap.size) o2 _ _ (0, 0) _ hg1 Tryd.underlying27 rfl IP.out hG rfl
  · refine step_guard [24] (by kernel_rfl) (j := 24) (t := 50) (b := true) rfl (by simp) rfl hl rfl (fun v w h => h) fun us w' hG hV => ?_
    have o3 := (frame_old2 (us := us) (a := a0) (show (qwT[3]?).join = none from rfl)).trans k3
    have hg1 := gr_rowO hG R1_V.out
    generalize frame qwT a0 us = fr at *
    exact load_ok 27 3 rfl ((w.heap.size + 1)) o3 _ _ (0, 0) _ hg1 Tryd.underlying27 rfl IQ.out hG rfl
  · refine step_guard [24, 28, 29] (by kernel_rfl) (j := 24) (t := 50) (b := true) rfl (by simp) rfl hl rfl (fun v w h => h) fun us w' hG hV => ?_
    have e28 : us 28 = .agg CP := hV 28 (by simp)
    have v28 := (frame_at2 (us := us) hl (show (qwT[54]?).join = some 28 from rfl)).trans e28
    have e29 : us 29 = .agg CQ := hV 29 (by simp)
    have v29 := (frame_at2 (us := us) hl (show (qwT[55]?).join = some 29 from rfl)).trans e29
    generalize frame qwT a0 us = fr at *
    exact call_ok (f := 17) (args := #[.agg CP, .agg CQ]) (by go_simp) ((DS.out w' hG).mono fun e w'' h => ⟨_, h.1, hG.below h.2, h.2, rfl⟩)
  · refine step_guard [24, 27, 30] (by kernel_rfl) (j := 24) (t := 50) (b := true) rfl (by simp) rfl hl rfl (fun v w h => h) fun us w' hG hV => ?_
    have e27 : us 27 = .bool sm := hV 27 (by simp)
    have v27 := (frame_at2 (us := us) hl (show (qwT[53]?).join = some 27 from rfl)).trans e27
    have e30 : us 30 = .bool sm := hV 30 (by simp)
    have v30 := (frame_at2 (us := us) hl (show (qwT[56]?).join = some 30 from rfl)).trans e30
    generalize frame qwT a0 us = fr at *
    exact val_ok (v := .bool true) (w' := w') (by go_simp) hG (Below.refl _ _) rfl
  · refine step_plain [24, 31] (by kernel_rfl) rfl fun us w' hG hV => ?_
    have e24 : us 24 = .bool true := hV 24 (by simp)
    have v24 := (frame_at2 (us := us) hl (show (qwT[50]?).join = some 24 from rfl)).trans e24
    have e31 : us 31 = .bool true := hV 31 (by simp)
    have v31 := (frame_at2 (us := us) hl (show (qwT[57]?).join = some 31 from rfl)).trans e31
    generalize frame qwT a0 us = fr at *
    exact val_ok (v := .bool true) (w' := w') (by go_simp) hG (Below.refl _ _) rfl
  · refine step_plain [32] (by kernel_rfl) rfl fun us w' hG hV => ?_
    have e32 : us 32 = .bool true := hV 32 (by simp)
    have v32 := (frame_at2 (us := us) hl (show (qwT[58]?).join = some 32 from rfl)).trans e32
    generalize frame qwT a0 us = fr at *
    exact val_ok (v := .bool true) (w' := w') (by go_simp) hG (Below.refl _ _) rfl
  · refine step_guard [33] (by kernel_rfl) (j := 33) (t := 59) (b := true) rfl (by simp) rfl hl rfl (fun v w h => h) fun us w' hG hV => ?_
    have o2 := (frame_old2 (us := us) (a := a0) (show (qwT[2]?).join = none from rfl)).trans k2
    have hg1 := gr_rowO hG R0_V.out
    generalize frame qwT a0 us = fr at *
    exact load_ok 27 2 rfl (w.heap.size) o2 _ _ (0, 0) _ hg1 Tryd.underlying27 rfl IP.out hG rfl
  · refine step_guard [33] (by kernel_rfl) (j := 33) (t := 59) (b := true) rfl (by simp) rfl hl rfl (fun v w h => h) fun us w' hG hV => ?_
    have o2 := (frame_old2 (us := us) (a := a0) (show (qwT[2]?).join = none from rfl)).trans k2
    have hg1 := gr_rowO hG R0_V.out
    generalize frame qwT a0 us = fr at *
    exact load_ok 27 2 rfl (w.heap.size) o2 _ _ (0, 0) _ hg1 Tryd.underlying27 rfl IP.out hG rfl
  · refine step_guard [33, 34, 35] (by kernel_rfl) (j := 33) (t := 59) (b := true) rfl (by simp) rfl hl rfl (fun v w h => h) fun us w' hG hV => ?_
    have e34 : us 34 = .agg CP := hV 34 (by simp)
    have v34 := (frame_at2 (us := us) hl (show (qwT[60]?).join = some 34 from rfl)).trans e34
    have e35 : us 35 = .agg CP := hV 35 (by simp)
    have v35 := (frame_at2 (us := us) hl (show (qwT[61]?).join = some 35 from rfl)).trans e35
    generalize frame qwT a0 us = fr at *
    exact call_ok (f := 16) (args := #[.agg CP, .agg CP]) (by go_simp) ((CT.out w' hG).mono fun e w'' h => ⟨_, h.1, hG.below h.2, h.2, rfl⟩)
  · refine step_plain [33, 36] (by kernel_rfl) rfl fun us w' hG hV => ?_
    have e33 : us 33 = .bool true := hV 33 (by simp)
    have v33 := (frame_at2 (us := us) hl (show (qwT[59]?).join = some 33 from rfl)).trans e33
    have e36 : us 36 = .bool true := hV 36 (by simp)
    have v36 := (frame_at2 (us := us) hl (show (qwT[62]?).join = some 36 from rfl)).trans e36
    generalize frame qwT a0 us = fr at *
    exact val_ok (v := .bool true) (w' := w') (by go_simp) hG (Below.refl _ _) rfl
  · refine step_plain [37] (by kernel_rfl) rfl fun us w' hG hV => ?_
    have e37 : us 37 = .bool true := hV 37 (by simp)
    have v37 := (frame_at2 (us := us) hl (show (qwT[63]?).join = some 37 from rfl)).trans e37
    generalize frame qwT a0 us = fr at *
    exact val_ok (v := .bool true) (w' := w') (by go_simp) hG (Below.refl _ _) rfl
  · refine step_guard [38] (by kernel_rfl) (j := 38) (t := 64) (b := true) rfl (by simp) rfl hl rfl (fun v w h => h) fun us w' hG hV => ?_
    generalize frame qwT a0 us = fr at *
    exact call_ok (f := 9) (args := #[]) (by go_simp) ((AL.out w' hG).mono fun e w'' h => ⟨_, h.1, hG.below h.2, h.2, rfl⟩)
  · refine step_plain [38, 39] (by kernel_rfl) rfl fun us w' hG hV => ?_
    have e38 : us 38 = .bool true := hV 38 (by simp)
    have v38 := (frame_at2 (us := us) hl (show (qwT[64]?).join = some 38 from rfl)).trans e38
    have e39 : us 39 = .bool true := hV 39 (by simp)
    have v39 := (frame_at2 (us := us) hl (show (qwT[65]?).join = some 39 from rfl)).trans e39
    generalize frame qwT a0 us = fr at *
    exact val_ok (v := .bool true) (w' := w') (by go_simp) hG (Below.refl _ _) rfl
  · refine step_plain [40] (by kernel_rfl) rfl fun us w' hG hV => ?_
    have e40 : us 40 = .bool true := hV 40 (by simp)
    have v40 := (frame_at2 (us := us) hl (show (qwT[66]?).join = some 40 from rfl)).trans e40
    generalize frame qwT a0 us = fr at *
    exact val_ok (v := .bool true) (w' := w') (by go_simp) hG (Below.refl _ _) rfl
  · intro us w' hG hV
    have eL : us 41 = .bool true := hV 41 (by decide)
    subst ha0
    simp only [frame, qwT, fill]
    rw [eL]
    go_wp2_with fail
    go_ret
    exact ⟨rfl, HB_V.out.trans (hG.mono HB_V.out.size)⟩
end Go.Proofs.YtapcjgmijcpfiaaDoor.opC
