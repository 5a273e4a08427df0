/-
  3 texts of a proof, joined.
-/
import Derived.Test.YtflfkhcbkhdahaaMg20
import Derived.Test.YtflfkhcbkhdahaaMg21
import Derived.Test.YtflfkhcbkhdahaaMg19
import Derived.Great.BuildSlice

/-
  The program's key tuples: whether two meet; one with a master key of its own.
-/
namespace Go.Proofs.Ytflfkhcbkhdahaa.mkC
open Go.ChangeShapes Go.WideShapes Go.ChangeAt Go.RowKit
open Go.Proofs.Ytflfkhcbkhdahaa.memC Go.Proofs.Ytflfkhcbkhdahaa.genC Go.Proofs.Ytflfkhcbkhdahaa.butC Go.Proofs.Ytflfkhcbkhdahaa.freeC Go.Proofs.Ytflfkhcbkhdahaa.adC Go.Proofs.Ytflfkhcbkhdahaa.rtC
set_option linter.unusedVariables false
/-! ### the pair that tells whether two meet -/
theorem may_mask {k : Kt} {m : Nat} (h : mayB k m = true) : maskO k.s k.a k.len = some (k.s, k.a) := by
  unfold mayB at h
  simp only [Bool.and_eq_true, decide_eq_true_eq] at h
  exact h.1
theorem lies_self {k : Kt} (h : maskO k.s k.a k.len = some (k.s, k.a)) : liesL k.s k.a k.s k.a k.len = true := by
  unfold liesL; rw [h]; simp
theorem lies_same {a b : Kt} (ha : maskO a.s a.a a.len = some (a.s, a.a)) (hb : maskO b.s b.a b.len = some (b.s, b.a)) (hl : a.len = b.len) : liesL a.s a.a b.s b.a b.len = liesL b.s b.a a.s a.a a.len := by
  have ha' : maskO a.s a.a b.len = some (a.s, a.a) := by rw [← hl]; exact ha
  have hb' : maskO b.s b.a a.len = some (b.s, b.a) := by rw [hl]; exact hb
  unfold liesL
  rw [ha', hb, hb', ha]
  simp only [outO, Option.isSome_some, Bool.true_and]
  exact decide_eq_decide.2 ⟨fun h => ⟨h.1.symm, h.2.symm⟩, fun h => ⟨h.1.symm, h.2.symm⟩⟩
theorem port_near1 (x y : Int) : portB x (orP x y) = true := by
  unfold portB orP
  by_cases h : x = 0
  · simp [h]
  · rw [if_neg h]; simp
theorem port_near2 (x y : Int) : portB y (orP x y) = (portB x y || decide (y = 0)) := by
  unfold portB orP
  by_cases h : x = 0
  · simp [h]
  · rw [if_neg h]
    by_cases h2 : y = 0
    · simp [h2]
    · by_cases h3 : y = x
      · simp [h3]
      · have h4 : ¬ x = y := fun e => h3 e.symm
        simp [h, h2, h3, h4]
theorem meet_near (a b : Kt) (n m : Nat) : (mayB a n && (mayB b m && (govB a (nearP a b) && govB b (nearP a b)))) = meetB a n b m := by
  unfold meetB
  cases ma : mayB a n
  · rfl
  · cases mb : mayB b m
    · rfl
    · have ha := may_mask ma
      have hb := may_mask mb
      simp only [Bool.true_and]
      unfold govB nearP
      simp only [port_near1, port_near2, Bool.and_true]
      by_cases hl : b.len > a.len
      · simp only [if_pos hl]
        rw [if_neg (show ¬ a.len > b.len by omega), lies_self hb]
        unfold liesK
        simp
      · simp only [if_neg hl]
        rw [lies_self ha]
        by_cases h2 : a.len > b.len
        · rw [if_pos h2]; unfold liesK; simp
        · rw [if_neg h2, lies_same ha hb (by omega)]; unfold liesK; simp
set_option maxRecDepth 100000 in
set_option maxHeartbeats 4000000 in
theorem cmeet_any (a b : Kt) (A B : Option Addr) (n c m d : Nat) (w : World) (ha : a.Ok) (hb : b.Ok) : Calls Try.prog 49 #[.agg (ktV a A n c), .agg (ktV b B m d)] w (Ret w (.bool (meetB a n b m))) := by
  have hz2 := zeroPr
  rw [← meet_near a b n m]
  have e1 : (w.alloc (.cells (ktV a A n c) 49)).heap.size = w.heap.size + 1 := alloc_size _ _
  obtain ⟨W, hW⟩ : ∃ W, W = (w.alloc (.cells (ktV a A n c) 49)).alloc (.cells (ktV b B m d) 49) := ⟨_, rfl⟩
  have R0 := Lib.hid (show W.heap[w.heap.size]? = some (.cells (ktV a A n c) 49 (0, 0)) by rw [hW, Below.block (alloc_below _ _) _ (by rw [e1]; omega)]; exact heap_alloc_new w _)
  have R1 := Lib.hid (show W.heap[w.heap.size + 1]? = some (.cells (ktV b B m d) 49 (0, 0)) by rw [hW, ← e1]; exact heap_alloc_new _ _)
  have HB := Lib.hid (show Below w.heap.size w W by rw [hW]; exact ((Below.refl _ _).alloc (Nat.le_refl _) _).alloc (by simp) _)
  have hok := nearP_ok ha hb
  have KA := Lib.hid (fun (w' : World) (h : Below W.heap.size W w') => (show w'.heap[w.heap.size]? = some (.cells (ktV a A n c) 49 (0, 0)) from (h.block _ (lt_of_row R0.out)).trans R0.out))
  have KB := Lib.hid (fun (w' : World) (h : Below W.heap.size W w') => (show w'.heap[w.heap.size + 1]? = some (.cells (ktV b B m d) 49 (0, 0)) from (h.block _ (lt_of_row R1.out)).trans R1.out))
  have I0 := Lib.hid (pkV_info (A := A) (m := n) (c := c) ha)
  have I1 := Lib.hid (pkV_info (A := B) (m := m) (c := d) hb)
  have NR := Lib.hid (fun w' => nearest_any a b A B n c m d w' ha hb)
  have M1 := Lib.hid (fun w' => cmay_any a A n c w' ha)
  have M2 := Lib.hid (fun w' => cmay_any b B m d w' hb)
  have G1 := Lib.hid (fun w' => cgov_any a (nearP a b) A n c w' ha hok)
  have G2 := Lib.hid (fun w' => cgov_any b (nearP a b) B m d w' hb hok)
  have IP := Lib.hid (prV_info hok)
  have SP := Lib.hid (show (prV zPr).size = (prV (nearP a b)).size by rw [prV_size hok, prV_size zPr_ok])
  have OP := Lib.hid (prV_one (nearP a b))
  have HR0 := Lib.hid (Below.refl W.heap.size W)
  generalize mayB a n = v1 at *
  generalize mayB b m = v2 at *
  generalize govB a (nearP a b) = v3 at *
  generalize govB b (nearP a b) = v4 at *
  generalize prV (nearP a b) = CP at *
  generalize prV zPr = ZP at *
  generalize ktV a A n c = CA at *
  generalize ktV b B m d = CB at *
  clear ha hb hok e1 R0 R1
  go_enter Try.func49, Try.ntmps49
  go_upto_region 1 with fail
  rw [← hW]
  clear hW
  go_upto_region 2 with (first
    | (with_reducible refine atC.at_load 49 2 ?_; refine wpList_load_rowG (by kernel_rfl) 49 (.tmp 2) rfl w.heap.size (by kernel_rfl) _ _ _ _ (KA.out _ HR0.out) Try.underlying49 rfl I0.out ?_)
    | (with_reducible refine atC.at_load 49 3 ?_; refine wpList_load_rowG (by kernel_rfl) 49 (.tmp 3) rfl (w.heap.size + 1) (by kernel_rfl) _ _ _ _ (KB.out _ HR0.out) Try.underlying49 rfl I1.out ?_)
    | (go_at_call 58; (with_reducible refine (NR.out _).mono ?_); rintro e w2 ⟨rfl, BB⟩; have HW2 := Lib.hid BB; clear BB)
    | (refine wpList_store_row rfl 30 (.tmp 5) (.tmp 8) rfl w2.heap.size CP rfl rfl _ _ (heap_alloc_new _ _) IP.out SP.out OP.out ?_; rw [World.setRow_alloc_new]))
  obtain ⟨W3, hW3⟩ : ∃ W3, W3 = w2.alloc (.cells CP 30) := ⟨_, rfl⟩
  obtain ⟨g3, hg3⟩ : ∃ g, g = w2.heap.size := ⟨_, rfl⟩
  have R3 := Lib.hid (show W3.heap[g3]? = some (.cells CP 30 (0, 0)) by rw [hW3, hg3]; exact heap_alloc_new _ _)
  have HQ3 := Lib.hid (show Below W.heap.size W W3 by rw [hW3]; exact HW2.out.trans ((alloc_below _ _).mono HW2.out.size))
  have HP3 := Lib.hid (Below.refl W3.heap.size W3)
  have KP := Lib.hid (fun (w' : World) (h : Below W3.heap.size W3 w') => (show w'.heap[g3]? = some (.cells CP 30 (0, 0)) from (h.block _ (lt_of_row R3.out)).trans R3.out))
  rw [← hW3, ← hg3]
  clear hW3 hg3 hz2 HW2 R3 HR0 NR
  cases v1
  · go_wp2_with (first
      | go_skip
      | (with_reducible refine atC.at_load 49 2 ?_; refine wpList_load_rowG (by kernel_rfl) 49 (.tmp 2) rfl w.heap.size (by kernel_rfl) _ _ _ _ (KA.out _ (by first | exact HQ6.out | exact HQ5.out | exact HQ4.out | exact HQ3.out)) Try.underlying49 rfl I0.out ?_)
      | (with_reducible refine atC.at_load 49 3 ?_; refine wpList_load_rowG (by kernel_rfl) 49 (.tmp 3) rfl (w.heap.size + 1) (by kernel_rfl) _ _ _ _ (KB.out _ (by first | exact HQ6.out | exact HQ5.out | exact HQ4.out | exact HQ3.out)) Try.underlying49 rfl I1.out ?_)
      | (with_reducible refine atC.at_load 30 5 ?_; refine wpList_load_rowG (by kernel_rfl) 30 (.tmp 5) rfl g3 (by kernel_rfl) _ _ _ _ (KP.out _ (by first | exact HP6.out | exact HP5.out | exact HP4.out | exact HP3.out)) Try.underlying30 rfl IP.out ?_)
      | (go_at_call 30; (with_reducible refine (M1.out _).mono ?_); rintro e w4 ⟨rfl, BB⟩; have HQ4 := Lib.hid (HQ3.out.trans (BB.mono HQ3.out.size)); have HP4 := Lib.hid (HP3.out.trans (BB.mono HP3.out.size)); clear BB))
    go_ret
    exact ⟨rfl, HB.out.trans (HQ4.out.mono HB.out.size)⟩
  · cases v2
    · go_wp2_with (first
        | go_skip
        | (with_reducible refine atC.at_load 49 2 ?_; refine wpList_load_rowG (by kernel_rfl) 49 (.tmp 2) rfl w.heap.size (by kernel_rfl) _ _ _ _ (KA.out _ (by first | exact HQ6.out | exact HQ5.out | exact HQ4.out | exact HQ3.out)) Try.underlying49 rfl I0.out ?_)
        | (with_reducible refine atC.at_load 49 3 ?_; refine wpList_load_rowG (by kernel_rfl) 49 (.tmp 3) rfl (w.heap.size + 1) (by kernel_rfl) _ _ _ _ (KB.out _ (by first | exact HQ6.out | exact HQ5.out | exact HQ4.out | exact HQ3.out)) Try.underlying49 rfl I1.out ?_)
        | (with_reducible refine atC.at_load 30 5 ?_; refine wpList_load_rowG (by kernel_rfl) 30 (.tmp 5) rfl g3 (by kernel_rfl) _ _ _ _ (KP.out _ (by first | exact HP6.out | exact HP5.out | exact HP4.out | exact HP3.out)) Try.underlying30 rfl IP.out ?_)
        | (go_at_call 30; (with_reducible refine (M1.out _).mono ?_); rintro e w4 ⟨rfl, BB⟩; have HQ4 := Lib.hid (HQ3.out.trans (BB.mono HQ3.out.size)); have HP4 := Lib.hid (HP3.out.trans (BB.mono HP3.out.size)); clear BB)
        | (go_at_call 30; (with_reducible refine (M2.out _).mono ?_); rintro e w5 ⟨rfl, BB⟩; have HQ5 := Lib.hid (HQ4.out.trans (BB.mono HQ4.out.size)); have HP5 := Lib.hid (HP4.out.trans (BB.mono HP4.out.size)); clear BB))
      go_ret
      exact ⟨rfl, HB.out.trans (HQ5.out.mono HB.out.size)⟩
    · cases v3
      · go_wp2_with (first
          | go_skip
          | (with_reducible refine atC.at_load 49 2 ?_; refine wpList_load_rowG (by kernel_rfl) 49 (.tmp 2) rfl w.heap.size (by kernel_rfl) _ _ _ _ (KA.out _ (by first | exact HQ6.out | exact HQ5.out | exact HQ4.out | exact HQ3.out)) Try.underlying49 rfl I0.out ?_)
          | (with_reducible refine atC.at_load 49 3 ?_; refine wpList_load_rowG (by kernel_rfl) 49 (.tmp 3) rfl (w.heap.size + 1) (by kernel_rfl) _ _ _ _ (KB.out _ (by first | exact HQ6.out | exact HQ5.out | exact HQ4.out | exact HQ3.out)) Try.underlying49 rfl I1.out ?_)
          | (with_reducible refine atC.at_load 30 5 ?_; refine wpList_load_rowG (by kernel_rfl) 30 (.tmp 5) rfl g3 (by kernel_rfl) _ _ _ _ (KP.out _ (by first | exact HP6.out | exact HP5.out | exact HP4.out | exact HP3.out)) Try.underlying30 rfl IP.out ?_)
          | (go_at_call 30; (with_reducible refine (M1.out _).mono ?_); rintro e w4 ⟨rfl, BB⟩; have HQ4 := Lib.hid (HQ3.out.trans (BB.mono HQ3.out.size)); have HP4 := Lib.hid (HP3.out.trans (BB.mono HP3.out.size)); clear BB)
          | (go_at_call 30; (with_reducible refine (M2.out _).mono ?_); rintro e w5 ⟨rfl, BB⟩; have HQ5 := Lib.hid (HQ4.out.trans (BB.mono HQ4.out.size)); have HP5 := Lib.hid (HP4.out.trans (BB.mono HP4.out.size)); clear BB)
          | (go_at_call 39; (with_reducible refine (G1.out _).mono ?_); rintro e w6 ⟨rfl, BB⟩; have HQ6 := Lib.hid (HQ5.out.trans (BB.mono HQ5.out.size)); have HP6 := Lib.hid (HP5.out.trans (BB.mono HP5.out.size)); clear BB))
        go_ret
        exact ⟨rfl, HB.out.trans (HQ6.out.mono HB.out.size)⟩
      · go_wp2_with (first
          | go_skip
          | (with_reducible refine atC.at_load 49 2 ?_; refine wpList_load_rowG (by kernel_rfl) 49 (.tmp 2) rfl w.heap.size (by kernel_rfl) _ _ _ _ (KA.out _ (by first | exact HQ6.out | exact HQ5.out | exact HQ4.out | exact HQ3.out)) Try.underlying49 rfl I0.out ?_)
          | (with_reducible refine atC.at_load 49 3 ?_; refine wpList_load_rowG (by kernel_rfl) 49 (.tmp 3) rfl (w.heap.size + 1) (by kernel_rfl) _ _ _ _ (KB.out _ (by first | exact HQ6.out | exact HQ5.out | exact HQ4.out | exact HQ3.out)) Try.underlying49 rfl I1.out ?_)
          | (with_reducible refine atC.at_load 30 5 ?_; refine wpList_load_rowG (by kernel_rfl) 30 (.tmp 5) rfl g3 (by kernel_rfl) _ _ _ _ (KP.out _ (by first | exact HP6.out | exact HP5.out | exact HP4.out | exact HP3.out)) Try.underlying30 rfl IP.out ?_)
          | (go_at_call 30; (with_reducible refine (M1.out _).mono ?_); rintro e w4 ⟨rfl, BB⟩; have HQ4 := Lib.hid (HQ3.out.trans (BB.mono HQ3.out.size)); have HP4 := Lib.hid (HP3.out.trans (BB.mono HP3.out.size)); clear BB)
          | (go_at_call 30; (with_reducible refine (M2.out _).mono ?_); rintro e w5 ⟨rfl, BB⟩; have HQ5 := Lib.hid (HQ4.out.trans (BB.mono HQ4.out.size)); have HP5 := Lib.hid (HP4.out.trans (BB.mono HP4.out.size)); clear BB)
          | (go_at_call 39; (with_reducible refine (G1.out _).mono ?_); rintro e w6 ⟨rfl, BB⟩; have HQ6 := Lib.hid (HQ5.out.trans (BB.mono HQ5.out.size)); have HP6 := Lib.hid (HP5.out.trans (BB.mono HP5.out.size)); clear BB)
          | (go_at_call 39; (with_reducible refine (G2.out _).mono ?_); rintro e w7 ⟨rfl, BB⟩; have HQ7 := Lib.hid (HQ6.out.trans (BB.mono HQ6.out.size)); have HP7 := Lib.hid (HP6.out.trans (BB.mono HP6.out.size)); clear BB))
        go_ret
        exact ⟨rfl, HB.out.trans (HQ7.out.mono HB.out.size)⟩
set_option maxRecDepth 100000 in
set_option maxHeartbeats 4000000 in
theorem cclash_any (x y : Ke) (w : World) (hx : x.k.Ok) (hy : y.k.Ok) (lx : x.m.length = x.n) (ly : y.m.length = y.n) : Calls Try.prog 33 #[.agg x.V, .agg y.V] w (Ret w (.bool (clash x.val y.val))) := by
  obtain ⟨a, A, n, c, xs⟩ := x
  obtain ⟨b, B, m, d, ys⟩ := y
  unfold Ke.V Ke.val clash
  simp only at hx hy lx ly ⊢
  rw [lx, ly]
  have e1 : (w.alloc (.cells (ktV a A n c) 49)).heap.size = w.heap.size + 1 := alloc_size _ _
  obtain ⟨W, hW⟩ : ∃ W, W = (w.alloc (.cells (ktV a A n c) 49)).alloc (.cells (ktV b B m d) 49) := ⟨_, rfl⟩
  have R0 := Lib.hid (show W.heap[w.heap.size]? = some (.cells (ktV a A n c) 49 (0, 0)) by rw [hW, Below.block (alloc_below _ _) _ (by rw [e1]; omega)]; exact heap_alloc_new w _)
  have R1 := Lib.hid (show W.heap[w.heap.size + 1]? = some (.cells (ktV b B m d) 49 (0, 0)) by rw [hW, ← e1]; exact heap_alloc_new _ _)
  have HB := Lib.hid (show Below w.heap.size w W by rw [hW]; exact ((Below.refl _ _).alloc (Nat.le_refl _) _).alloc (by simp) _)
  have I0 := Lib.hid (pkV_info (A := A) (m := n) (c := c) hx)
  have I1 := Lib.hid (pkV_info (A := B) (m := m) (c := d) hy)
  have s1 := kt_cell R0.out (kt_si hx)
  have s2 := kt_cell R1.out (kt_si hy)
  have r1 := kt_cell R0.out (kt_ri hx)
  have r2 := kt_cell R1.out (kt_ri hy)
  have ME := Lib.hid (fun w' => cmeet_any a b A B n c m d w' hx hy)
  generalize meetB a n b m = v at *
  generalize ktV a A n c = CA at *
  generalize ktV b B m d = CB at *
  generalize a.si = sa at *
  generalize b.si = sb at *
  generalize a.ri = ra at *
  generalize b.ri = rb at *
  obtain ⟨V, hV⟩ : ∃ V, V = (v && (decide (sa = sb) || decide (ra = rb))) := ⟨_, rfl⟩
  rw [← hV]
  have HV := Lib.hid hV
  clear hx hy lx ly e1 hV
  go_enter Try.func33, Try.ntmps33
  go_upto_region 1 with fail
  rw [← hW]
  clear hW
  by_cases h1 : sa = sb
  · have hv := Lib.hid (show V = v by rw [HV.out]; simp [h1])
    have q1 : (sa == sb) = true := beq_iff_eq.2 h1
    clear h1 HV
    go_wp2_with (first
      | go_skip
      | (with_reducible refine atC.at_load 49 2 ?_; refine wpList_load_rowG (by kernel_rfl) 49 (.tmp 2) rfl w.heap.size (by kernel_rfl) _ _ _ _ R0.out Try.underlying49 rfl I0.out ?_)
      | (with_reducible refine atC.at_load 49 3 ?_; refine wpList_load_rowG (by kernel_rfl) 49 (.tmp 3) rfl (w.heap.size + 1) (by kernel_rfl) _ _ _ _ R1.out Try.underlying49 rfl I1.out ?_)
      | (go_at_call 49; (with_reducible refine (ME.out _).mono ?_); rintro e w2 ⟨rfl, BB⟩; have HW2 := Lib.hid BB; clear BB))
    go_ret
    exact ⟨ret_bool (by first | exact hv.out | exact hv.out.symm), HB.out.trans (HW2.out.mono HB.out.size)⟩
  · have q1 : (sa == sb) = false := beq_eq_false_iff_ne.2 h1
    by_cases h2 : ra = rb
    · have hv := Lib.hid (show V = v by rw [HV.out]; simp [h2])
      have q2 : (ra == rb) = true := beq_iff_eq.2 h2
      clear h1 h2 HV
      go_wp2_with (first
        | go_skip
        | (with_reducible refine atC.at_load 49 2 ?_; refine wpList_load_rowG (by kernel_rfl) 49 (.tmp 2) rfl w.heap.size (by kernel_rfl) _ _ _ _ R0.out Try.underlying49 rfl I0.out ?_)
        | (with_reducible refine atC.at_load 49 3 ?_; refine wpList_load_rowG (by kernel_rfl) 49 (.tmp 3) rfl (w.heap.size + 1) (by kernel_rfl) _ _ _ _ R1.out Try.underlying49 rfl I1.out ?_)
        | (go_at_call 49; (with_reducible refine (ME.out _).mono ?_); rintro e w2 ⟨rfl, BB⟩; have HW2 := Lib.hid BB; clear BB))
      go_ret
      exact ⟨ret_bool (by first | exact hv.out | exact hv.out.symm), HB.out.trans (HW2.out.mono HB.out.size)⟩
    · have hv := Lib.hid (show V = false by rw [HV.out]; simp [h1, h2])
      have q2 : (ra == rb) = false := beq_eq_false_iff_ne.2 h2
      clear h1 h2 HV
      go_wp2_with go_skip
      go_ret
      exact ⟨ret_bool (by first | exact hv.out | exact hv.out.symm), HB.out⟩
/-! ### own -/
theorem kt_set0 (s op : Bool) (a0 a1 a2 a3 a4 a5 a6 a7 a8 a9 a10 a11 a12 a13 a14 a15 n ln lp rp si ri al : Int) (A B : Option Addr) (m c m' d : Nat) : (ktV ⟨n, s, [a0, a1, a2, a3, a4, a5, a6, a7, a8, a9, a10, a11, a12, a13, a14, a15], ln, lp, rp, si, ri, al, op⟩ A m c).setIfInBounds 24 (.slice B m' d) = ktV ⟨n, s, [a0, a1, a2, a3, a4, a5, a6, a7, a8, a9, a10, a11, a12, a13, a14, a15], ln, lp, rp, si, ri, al, op⟩ B m' d := by kernel_rfl
theorem kt_set {k : Kt} (h : k.Ok) (A B : Option Addr) (m c m' d : Nat) : (ktV k A m c).setIfInBounds 24 (.slice B m' d) = ktV k B m' d := by
  obtain ⟨a0, a1, a2, a3, a4, a5, a6, a7, a8, a9, a10, a11, a12, a13, a14, a15, ha⟩ := len16M h.la
  cases k
  simp only at ha
  subst ha
  exact kt_set0 _ _ _ _ _ _ _ _ _ _ _ _ _ _ _ _ _ _ _ _ _ _ _ _ _ _ _ _ _ _ _
/-- the same key tuple, its master key the call's own -/
def OwnQ (w : World) (q : Ke) (e : Ending) (w' : World) : Prop :=
  ∃ B d, e = .returned (.agg (ktV q.k B q.n d)) ∧ KeAt w' w'.heap.size ⟨q.k, B, q.n, d, q.m⟩ ∧ memC.Own .u8 5 w' w.heap.size (.slice B q.n d) q.m ∧ Below w.heap.size w w'
set_option maxRecDepth 100000 in
set_option maxHeartbeats 4000000 in
theorem own_any (q : Ke) (w : World) (hq : KeAt w w.heap.size q) (hn : q.n ≤ 1000) : Calls Try.prog 34 #[.agg q.V] w (OwnQ w q) := by
  obtain ⟨k, A, n, c, xs⟩ := q
  have hk := hq.ok
  have hz := zeroPk
  unfold OwnQ Ke.V
  simp only at hk hn ⊢
  have hlen := hq.len
  have hby := hq.byte
  have hnum := hq.nums
  simp only at hlen hby hnum
  subst hlen
  have e1 : (w.alloc (.cells (ktV k A xs.length c) 49)).heap.size = w.heap.size + 1 := alloc_size _ _
  obtain ⟨W, hW⟩ : ∃ W, W = (w.alloc (.cells (ktV k A xs.length c) 49)).alloc (.cells (ktV zKt none 0 0) 49) := ⟨_, rfl⟩
  obtain ⟨b0, hb0⟩ : ∃ b, b = w.heap.size := ⟨_, rfl⟩
  obtain ⟨b2, hb2⟩ : ∃ b, b = w.heap.size + 1 := ⟨_, rfl⟩
  have R0 := Lib.hid (show W.heap[b0]? = some (.cells (ktV k A xs.length c) 49 (0, 0)) by rw [hW, hb0, Below.block (alloc_below _ _) _ (by rw [e1]; omega)]; exact heap_alloc_new w _)
  have R1 := Lib.hid (show W.heap[b2]? = some (.cells (ktV zKt none 0 0) 49 (0, 0)) by rw [hW, hb2, ← e1]; exact heap_alloc_new _ _)
  have HB := Lib.hid (show Below w.heap.size w W by rw [hW]; exact ((Below.refl _ _).alloc (Nat.le_refl _) _).alloc (by simp) _)
  have m24 := kt_cell R0.out (kt_mst hk)
  have CL := Lib.hid (octC.clone_any A xs.length c xs W ((hnum.below HB.out).more HB.out.size) (by omega))
  have HL := Lib.hid (And.intro (show w.heap.size ≤ b0 by omega) (And.intro (show w.heap.size ≤ b2 by omega) (show b0 ≠ b2 by omega)))
  have HK := Lib.hid hk
  have HY := Lib.hid hby
  clear hq hnum hby hn hk e1
  go_enter Try.func34, Try.ntmps34
  go_upto_region 1 with fail
  rw [← hW]
  try rw [← hb2]
  try rw [← hb0]
  clear hW hz hb0 hb2
  go_upto_region 2 with (go_at_call 50; (refine CL.out.mono ?_); rintro e w2 ⟨B, d, rfl, O2, nd, dm, N2, BB⟩; have HW2 := Lib.hid BB; have HO2 := Lib.hid (show memC.Own .u8 5 w2 W.heap.size (.slice B xs.length d) xs ∧ xs.length ≤ d ∧ d ≤ maxLen ∧ Nums .u8 w2 w2.heap.size B xs.length xs from ⟨O2, nd, dm, N2⟩); have T0 := Lib.hid (show w2.heap[b0]? = _ from (BB.block _ (lt_of_row R0.out)).trans R0.out); have T1 := Lib.hid (show w2.heap[b2]? = _ from (BB.block _ (lt_of_row R1.out)).trans R1.out); have c24 := kt_cell T0.out (kt_mst HK.out); have f24 := frozen_of_row w2 b0 24 _ _ T0.out; clear O2 nd dm N2 BB m24)
  obtain ⟨w3, hw3⟩ : ∃ w3, w3 = w2.setCell ⟨b0, 24, none⟩ (.slice B xs.length d) := ⟨_, rfl⟩
  have U0 := Lib.hid (show w3.heap[b0]? = some (.cells (ktV k B xs.length d) 49 (0, 0)) by rw [hw3, heap_setCell_same w2 b0 24 _ _ _ T0.out, kt_set HK.out])
  have U1 := Lib.hid (show w3.heap[b2]? = some (.cells (ktV zKt none 0 0) 49 (0, 0)) by rw [hw3, heap_setCell_other _ _ _ _ (show b2 ≠ b0 from HL.out.2.2.symm)]; exact T1.out)
  have IQ := Lib.hid (pkV_info (A := B) (m := xs.length) (c := d) HK.out)
  have SQ := Lib.hid (kt_zsize (A := B) (m := xs.length) (c := d) HK.out)
  have OQ := Lib.hid (kt_ones (k := k) (A := B) (m := xs.length) (c := d))
  have HW3 := Lib.hid (show Below W.heap.size w2 w2 from Below.refl _ _)
  have EW3 := Lib.hid hw3
  rw [← hw3]
  clear hw3 c24 f24
  go_wp2_with (first
    | (with_reducible refine atC.at_load 49 1 ?_; refine wpList_load_rowG (by kernel_rfl) 49 (.tmp 1) rfl b0 (by kernel_rfl) _ _ _ _ U0.out Try.underlying49 rfl IQ.out ?_)
    | (refine wpList_store_row rfl 49 (.tmp 2) (.tmp 7) rfl b2 (ktV k B xs.length d) rfl rfl _ _ U1.out IQ.out SQ.out OQ.out ?_))
  refine bodyPost_ret (v := .agg (ktV k B xs.length d)) (Go.results_cell_row Try.results34 _ _ b2 _ _ _ _ (by rfl) (setRow_heap _ _ _ _ _ _ U1.out) Try.underlying49 rfl IQ.out) rfl ?_
  obtain ⟨O2, nd, dm, N2⟩ := HO2.out
  have hW : ∀ g, g ≠ b0 → g ≠ b2 → (w3.setRow b2 (ktV k B xs.length d)).heap[g]? = w2.heap[g]? := fun g h1 h2 => by rw [setRow_other _ _ _ _ h2, EW3.out, heap_setCell_other _ _ _ _ (show g ≠ b0 from h1)]
  have hS : (w3.setRow b2 (ktV k B xs.length d)).heap.size = w2.heap.size := by rw [EW3.out]; simp [World.setCell]
  have hlo : ∀ g, W.heap.size ≤ g → (w3.setRow b2 (ktV k B xs.length d)).heap[g]? = w2.heap[g]? := fun g hg => hW g (by have := lt_of_row R0.out; omega) (by have := lt_of_row R1.out; omega)
  have hblk : ∀ g o', B = some ⟨g, o', none⟩ → W.heap.size ≤ g := fun g o' e => (O2.blk g (by rw [e]; rfl)).1
  have ON : memC.Own .u8 5 (w3.setRow b2 (ktV k B xs.length d)) w.heap.size (.slice B xs.length d) xs := (O2.keep fun g hg _ => hlo g hg).less HB.out.size
  refine ⟨B, d, rfl, ⟨HK.out, ?_, HY.out, nd, by have := dm; unfold maxLen at this; exact this⟩, ON, ?_⟩
  · exact ON.nums
  · have hb1 : Below w.heap.size w w2 := HB.out.trans (HW2.out.mono HB.out.size)
    refine ⟨by rw [EW3.out]; exact hb1.os, by rw [EW3.out]; exact hb1.tape, by rw [EW3.out]; exact hb1.output, by rw [hS]; exact hb1.size, fun g hg => ?_⟩
    rw [hW g (by have := HL.out; omega) (by have := HL.out; omega)]
    exact hb1.block g hg
end Go.Proofs.Ytflfkhcbkhdahaa.mkC

/-
  Which key tuples are asked for; the first of a row that is; whether one is.
-/
namespace Go.Proofs.Ytflfkhcbkhdahaa.mkC
open Go.ChangeShapes Go.WideShapes Go.ChangeAt Go.RowKit
open Go.Proofs.Ytflfkhcbkhdahaa.memC Go.Proofs.Ytflfkhcbkhdahaa.genC Go.Proofs.Ytflfkhcbkhdahaa.butC Go.Proofs.Ytflfkhcbkhdahaa.freeC Go.Proofs.Ytflfkhcbkhdahaa.adC Go.Proofs.Ytflfkhcbkhdahaa.rtC
set_option linter.unusedVariables false
set_option maxRecDepth 100000 in
set_option maxHeartbeats 4000000 in
theorem drop1_any (x : Ke) (n : Int) (bx : Nat) (w : World) (hx : x.k.Ok) (R : w.heap[bx]? = some (.cells #[.int .i64 n] 3 (0, 0))) : Calls Try.prog 28 #[.agg x.V, .pointer (some ⟨bx, 0, none⟩)] w (Ret w (.bool (decide (x.val.1.n = n)))) := by
  obtain ⟨k, A, m, c, xs⟩ := x
  unfold Ke.V Ke.val
  simp only at hx ⊢
  obtain ⟨W, hW⟩ : ∃ W, W = w.alloc (.cells (ktV k A m c) 49) := ⟨_, rfl⟩
  have HB := Lib.hid (show Below w.heap.size w W by rw [hW]; exact alloc_below _ _)
  have R0 := Lib.hid (show W.heap[w.heap.size]? = some (.cells (ktV k A m c) 49 (0, 0)) by rw [hW]; exact heap_alloc_new _ _)
  have c0 := kt_cell R0.out kt_n
  have cn : W.cell? ⟨bx, 0, none⟩ = some (.int .i64 n) := by rw [HB.out.cell (p := ⟨bx, 0, none⟩) (lt_of_row R), cell_of_row w bx 0 _ _ (0, 0) R]; rfl
  clear R R0 hx
  generalize ktV k A m c = CA at *
  generalize k.n = kn at *
  go_enter Try.func28, Try.ntmps28
  go_upto_region 1 with fail
  rw [← hW]
  clear hW
  go_wp2_with fail
  go_ret
  exact ⟨ret_bool (by by_cases h : kn = n <;> simp [h]), HB.out⟩
set_option maxRecDepth 100000 in
set_option maxHeartbeats 4000000 in
theorem get1_any (x : Ke) (n : Int) (bx : Nat) (w : World) (hx : x.k.Ok) (R : w.heap[bx]? = some (.cells #[.int .i64 n] 3 (0, 0))) : Calls Try.prog 41 #[.agg x.V, .pointer (some ⟨bx, 0, none⟩)] w (Ret w (.bool (decide (x.val.1.n = n)))) := by
  obtain ⟨k, A, m, c, xs⟩ := x
  unfold Ke.V Ke.val
  simp only at hx ⊢
  obtain ⟨W, hW⟩ : ∃ W, W = w.alloc (.cells (ktV k A m c) 49) := ⟨_, rfl⟩
  have HB := Lib.hid (show Below w.heap.size w W by rw [hW]; exact alloc_below _ _)
  have R0 := Lib.hid (show W.heap[w.heap.size]? = some (.cells (ktV k A m c) 49 (0, 0)) by rw [hW]; exact heap_alloc_new _ _)
  have c0 := kt_cell R0.out kt_n
  have cn : W.cell? ⟨bx, 0, none⟩ = some (.int .i64 n) := by rw [HB.out.cell (p := ⟨bx, 0, none⟩) (lt_of_row R), cell_of_row w bx 0 _ _ (0, 0) R]; rfl
  clear R R0 hx
  generalize ktV k A m c = CA at *
  generalize k.n = kn at *
  go_enter Try.func41, Try.ntmps41
  go_upto_region 1 with fail
  rw [← hW]
  clear hW
  go_wp2_with fail
  go_ret
  exact ⟨ret_bool (by by_cases h : kn = n <;> simp [h]), HB.out⟩
set_option maxRecDepth 100000 in
set_option maxHeartbeats 4000000 in
theorem sends1_any (x : Ke) (p : Pr) (i : Int) (bi bp : Nat) (w : World) (hx : x.k.Ok) (hp : p.Ok) (Ri : w.heap[bi]? = some (.cells #[.int .u8 i] 5 (0, 0))) (Rp : w.heap[bp]? = some (.cells (prV p) 30 (0, 0))) : Calls Try.prog 38 #[.agg x.V, .pointer (some ⟨bi, 0, none⟩), .pointer (some ⟨bp, 0, none⟩)] w (Ret w (.bool (decide (x.val.1.si = i) && govB x.val.1 p))) := by
  obtain ⟨k, A, n, c, xs⟩ := x
  unfold Ke.V Ke.val
  simp only at hx ⊢
  obtain ⟨W, hW⟩ : ∃ W, W = w.alloc (.cells (ktV k A n c) 49) := ⟨_, rfl⟩
  have HB := Lib.hid (show Below w.heap.size w W by rw [hW]; exact alloc_below _ _)
  have R0 := Lib.hid (show W.heap[w.heap.size]? = some (.cells (ktV k A n c) 49 (0, 0)) by rw [hW]; exact heap_alloc_new _ _)
  have c0 := kt_cell R0.out (kt_si hx)
  have cn : W.cell? ⟨bi, 0, none⟩ = some (.int .u8 i) := by rw [HB.out.cell (p := ⟨bi, 0, none⟩) (lt_of_row Ri), cell_of_row w bi 0 _ _ (0, 0) Ri]; rfl
  have RP := Lib.hid (show W.heap[bp]? = some (.cells (prV p) 30 (0, 0)) from (HB.out.block _ (lt_of_row Rp)).trans Rp)
  have I0 := Lib.hid (pkV_info (A := A) (m := n) (c := c) hx)
  have IP := Lib.hid (prV_info hp)
  have GV := Lib.hid (fun w' => cgov_any k p A n c w' hx hp)
  obtain ⟨V, hV⟩ : ∃ V, V = (decide (k.si = i) && govB k p) := ⟨_, rfl⟩
  rw [← hV]
  generalize govB k p = g at *
  generalize ktV k A n c = CA at *
  generalize prV p = CP at *
  generalize k.si = ki at *
  have HV := Lib.hid hV
  clear hV Ri Rp hx hp
  by_cases h1 : ki = i
  · have hv := Lib.hid (show V = g by rw [HV.out]; simp [h1])
    have q1 : (ki == i) = true := beq_iff_eq.2 h1
    clear h1 HV
    go_enter Try.func38, Try.ntmps38
    go_upto_region 1 with fail
    rw [← hW]
    clear hW
    go_wp2_with (first
      | go_skip
      | (with_reducible refine atC.at_load 49 3 ?_; refine wpList_load_rowG (by kernel_rfl) 49 (.tmp 3) rfl w.heap.size (by kernel_rfl) _ _ _ _ R0.out Try.underlying49 rfl I0.out ?_)
      | (with_reducible refine atC.at_load 30 2 ?_; refine wpList_load_rowG (by kernel_rfl) 30 (.tmp 2) rfl bp (by kernel_rfl) _ _ _ _ RP.out Try.underlying30 rfl IP.out ?_)
      | (go_at_call 39; (with_reducible refine (GV.out _).mono ?_); rintro e w2 ⟨rfl, BB⟩; have HW2 := Lib.hid BB; clear BB))
    go_ret
    exact ⟨ret_bool (by first | exact hv.out | exact hv.out.symm), HB.out.trans (HW2.out.mono HB.out.size)⟩
  · have hv := Lib.hid (show V = false by rw [HV.out]; simp [h1])
    have q1 : (ki == i) = false := beq_eq_false_iff_ne.2 h1
    clear h1 HV
    go_enter Try.func38, Try.ntmps38
    go_upto_region 1 with fail
    rw [← hW]
    clear hW
    go_wp2_with go_skip
    go_ret
    exact ⟨ret_bool (by first | exact hv.out | exact hv.out.symm), HB.out⟩
set_option maxRecDepth 100000 in
set_option maxHeartbeats 4000000 in
theorem gets1_any (x : Ke) (p : Pr) (i : Int) (bi bp : Nat) (w : World) (hx : x.k.Ok) (hp : p.Ok) (Ri : w.heap[bi]? = some (.cells #[.int .u8 i] 5 (0, 0))) (Rp : w.heap[bp]? = some (.cells (prV p) 30 (0, 0))) : Calls Try.prog 40 #[.agg x.V, .pointer (some ⟨bi, 0, none⟩), .pointer (some ⟨bp, 0, none⟩)] w (Ret w (.bool (decide (x.val.1.ri = i) && govB x.val.1 p))) := by
  obtain ⟨k, A, n, c, xs⟩ := x
  unfold Ke.V Ke.val
  simp only at hx ⊢
  obtain ⟨W, hW⟩ : ∃ W, W = w.alloc (.cells (ktV k A n c) 49) := ⟨_, rfl⟩
  have HB := Lib.hid (show Below w.heap.size w W by rw [hW]; exact alloc_below _ _)
  have R0 := Lib.hid (show W.heap[w.heap.size]? = some (.cells (ktV k A n c) 49 (0, 0)) by rw [hW]; exact heap_alloc_new _ _)
  have c0 := kt_cell R0.out (kt_ri hx)
  have cn : W.cell? ⟨bi, 0, none⟩ = some (.int .u8 i) := by rw [HB.out.cell (p := ⟨bi, 0, none⟩) (lt_of_row Ri), cell_of_row w bi 0 _ _ (0, 0) Ri]; rfl
  have RP := Lib.hid (show W.heap[bp]? = some (.cells (prV p) 30 (0, 0)) from (HB.out.block _ (lt_of_row Rp)).trans Rp)
  have I0 := Lib.hid (pkV_info (A := A) (m := n) (c := c) hx)
  have IP := Lib.hid (prV_info hp)
  have GV := Lib.hid (fun w' => cgov_any k p A n c w' hx hp)
  obtain ⟨V, hV⟩ : ∃ V, V = (decide (k.ri = i) && govB k p) := ⟨_, rfl⟩
  rw [← hV]
  generalize govB k p = g at *
  generalize ktV k A n c = CA at *
  generalize prV p = CP at *
  generalize k.ri = ki at *
  have HV := Lib.hid hV
  clear hV Ri Rp hx hp
  by_cases h1 : ki = i
  · have hv := Lib.hid (show V = g by rw [HV.out]; simp [h1])
    have q1 : (ki == i) = true := beq_iff_eq.2 h1
    clear h1 HV
    go_enter Try.func40, Try.ntmps40
    go_upto_region 1 with fail
    rw [← hW]
    clear hW
    go_wp2_with (first
      | go_skip
      | (with_reducible refine atC.at_load 49 3 ?_; refine wpList_load_rowG (by kernel_rfl) 49 (.tmp 3) rfl w.heap.size (by kernel_rfl) _ _ _ _ R0.out Try.underlying49 rfl I0.out ?_)
      | (with_reducible refine atC.at_load 30 2 ?_; refine wpList_load_rowG (by kernel_rfl) 30 (.tmp 2) rfl bp (by kernel_rfl) _ _ _ _ RP.out Try.underlying30 rfl IP.out ?_)
      | (go_at_call 39; (with_reducible refine (GV.out _).mono ?_); rintro e w2 ⟨rfl, BB⟩; have HW2 := Lib.hid BB; clear BB))
    go_ret
    exact ⟨ret_bool (by first | exact hv.out | exact hv.out.symm), HB.out.trans (HW2.out.mono HB.out.size)⟩
  · have hv := Lib.hid (show V = false by rw [HV.out]; simp [h1])
    have q1 : (ki == i) = false := beq_eq_false_iff_ne.2 h1
    clear h1 HV
    go_enter Try.func40, Try.ntmps40
    go_upto_region 1 with fail
    rw [← hW]
    clear hW
    go_wp2_with go_skip
    go_ret
    exact ⟨ret_bool (by first | exact hv.out | exact hv.out.symm), HB.out⟩
set_option maxRecDepth 100000 in
set_option maxHeartbeats 4000000 in
theorem for1_any (x : Ke) (p : Pr) (bp : Nat) (w : World) (hx : x.k.Ok) (hp : p.Ok) (Rp : w.heap[bp]? = some (.cells (prV p) 30 (0, 0))) : Calls Try.prog 45 #[.agg x.V, .pointer (some ⟨bp, 0, none⟩)] w (Ret w (.bool (govB x.val.1 p))) := by
  obtain ⟨k, A, n, c, xs⟩ := x
  unfold Ke.V Ke.val
  simp only at hx ⊢
  obtain ⟨W, hW⟩ : ∃ W, W = w.alloc (.cells (ktV k A n c) 49) := ⟨_, rfl⟩
  have HB := Lib.hid (show Below w.heap.size w W by rw [hW]; exact alloc_below _ _)
  have R0 := Lib.hid (show W.heap[w.heap.size]? = some (.cells (ktV k A n c) 49 (0, 0)) by rw [hW]; exact heap_alloc_new _ _)
  have RP := Lib.hid (show W.heap[bp]? = some (.cells (prV p) 30 (0, 0)) from (HB.out.block _ (lt_of_row Rp)).trans Rp)
  have I0 := Lib.hid (pkV_info (A := A) (m := n) (c := c) hx)
  have IP := Lib.hid (prV_info hp)
  have GV := Lib.hid (fun w' => cgov_any k p A n c w' hx hp)
  generalize govB k p = g at *
  generalize ktV k A n c = CA at *
  generalize prV p = CP at *
  clear Rp hx hp
  go_enter Try.func45, Try.ntmps45
  go_upto_region 1 with fail
  rw [← hW]
  clear hW
  go_wp2_with (first
    | (with_reducible refine atC.at_load 49 2 ?_; refine wpList_load_rowG (by kernel_rfl) 49 (.tmp 2) rfl w.heap.size (by kernel_rfl) _ _ _ _ R0.out Try.underlying49 rfl I0.out ?_)
    | (with_reducible refine atC.at_load 30 1 ?_; refine wpList_load_rowG (by kernel_rfl) 30 (.tmp 1) rfl bp (by kernel_rfl) _ _ _ _ RP.out Try.underlying30 rfl IP.out ?_)
    | (go_at_call 39; (with_reducible refine (GV.out _).mono ?_); rintro e w2 ⟨rfl, BB⟩; have HW2 := Lib.hid BB; clear BB))
  go_ret
  exact ⟨rfl, HB.out.trans (HW2.out.mono HB.out.size)⟩
set_option maxRecDepth 100000 in
set_option maxHeartbeats 4000000 in
theorem all1_any (x : Ke) (w : World) : Calls Try.prog 44 #[.agg x.V] w (Ret w (.bool true)) := by
  generalize x.V = CA
  go_enter Try.func44, Try.ntmps44
  go_wp2
  go_ret
  exact ⟨rfl, alloc_below _ _⟩
set_option maxRecDepth 100000 in
set_option maxHeartbeats 4000000 in
theorem add1_any (x q : Ke) (bx : Nat) (w : World) (hx : x.k.Ok) (hq : q.k.Ok) (lx : x.m.length = x.n) (lq : q.m.length = q.n) (R : w.heap[bx]? = some (.cells q.V 49 (0, 0))) : Calls Try.prog 32 #[.agg x.V, .pointer (some ⟨bx, 0, none⟩)] w (Ret w (.bool (clash x.val q.val))) := by
  have CC := Lib.hid (fun w' => cclash_any x q w' hx hq lx lq)
  have I0 := Lib.hid (show (Try.prog.info? 49).map (·.size) = some x.V.size from pkV_info hx)
  have I1 := Lib.hid (show (Try.prog.info? 49).map (·.size) = some q.V.size from pkV_info hq)
  obtain ⟨W, hW⟩ : ∃ W, W = w.alloc (.cells x.V 49) := ⟨_, rfl⟩
  have HB := Lib.hid (show Below w.heap.size w W by rw [hW]; exact alloc_below _ _)
  have R0 := Lib.hid (show W.heap[w.heap.size]? = some (.cells x.V 49 (0, 0)) by rw [hW]; exact heap_alloc_new _ _)
  have R1 := Lib.hid (show W.heap[bx]? = some (.cells q.V 49 (0, 0)) from (HB.out.block _ (lt_of_row R)).trans R)
  clear hx hq lx lq R
  generalize clash x.val q.val = v at *
  generalize x.V = CA at *
  generalize q.V = CB at *
  go_enter Try.func32, Try.ntmps32
  go_upto_region 1 with fail
  rw [← hW]
  clear hW
  go_wp2_with (first
    | (with_reducible refine atC.at_load 49 2 ?_; refine wpList_load_rowG (by kernel_rfl) 49 (.tmp 2) rfl w.heap.size (by kernel_rfl) _ _ _ _ R0.out Try.underlying49 rfl I0.out ?_)
    | (with_reducible refine atC.at_load 49 1 ?_; refine wpList_load_rowG (by kernel_rfl) 49 (.tmp 1) rfl bx (by kernel_rfl) _ _ _ _ R1.out Try.underlying49 rfl I1.out ?_)
    | (go_at_call 33; (with_reducible refine (CC.out _).mono ?_); rintro e w2 ⟨rfl, BB⟩; have HW2 := Lib.hid BB; clear BB))
  go_ret
  exact ⟨rfl, HB.out.trans (HW2.out.mono HB.out.size)⟩
/-! ### the first that is asked for -/
def IdxR (w : World) (es : List Ke) (f : Ke → Bool) (e : Ending) (w' : World) : Prop :=
  ∃ r : Int, e = .returned (.int .i64 r) ∧ ((r = -1 ∧ ∀ x ∈ es, f x = false) ∨ ∃ (i : Nat) (x : Ke), r = i ∧ es[i]? = some x ∧ f x = true ∧ ∀ y ∈ es.take i, f y = false) ∧ Below w.heap.size w w'
set_option maxRecDepth 100000 in
set_option maxHeartbeats 4000000 in
theorem index_drop1 (n1 : Int) (bx : Nat) (A : Option Addr) (lo n c : Nat) (es : List Ke) (w : World) (hr : RowK w lo w.heap.size A n es) (ho : ∀ x ∈ es, x.k.Ok) (hn2 : n ≤ 1000) (R : w.heap[bx]? = some (.cells #[.int .i64 n1] 3 (0, 0))) :
    Calls Try.prog 27 #[.slice A n c, .func (.func 28) #[] #[.pointer (some ⟨bx, 0, none⟩)]] w (IdxR w es (fun x => decide (x.val.1.n = n1))) := by
  have HR := Lib.hid hr
  have HO := Lib.hid ho
  have HX := Lib.hid R
  have HN := Lib.hid (show es.length = n ∧ n ≤ 1000 from ⟨hr.len, hn2⟩)
  obtain ⟨pr, hpr⟩ : ∃ f : Ke → Bool, f = fun x => decide (x.val.1.n = n1) := ⟨_, rfl⟩
  rw [← hpr]
  have CC := Lib.hid (fun x (hxm : x ∈ es) w2 (hb2 : Below w.heap.size w w2) => (show Calls Try.prog 28 #[.agg x.V, .pointer (some ⟨bx, 0, none⟩)] w2 (Ret w2 (.bool (pr x))) by rw [hpr]; exact drop1_any x n1 bx w2 (HO.out x hxm) ((hb2.block _ (lt_of_row HX.out)).trans HX.out)))
  clear hr ho hn2 hpr R
  go_enter Try.func27, Try.ntmps27
  go_upto_region 2 with fail
  go_loopw [8] (fun u wr => ∃ k : Nat, u = .int .i64 k ∧ k ≤ n ∧ (∀ x ∈ es.take k, pr x = false) ∧ Below w.heap.size w wr) (fun u _ => 2000 - (intOf u).toNat)
  case atStart => exact ⟨0, rfl, Nat.zero_le _, fun x hx => by (cases hx), Below.refl _ _⟩
  case round =>
    obtain ⟨k, rfl, hk, hno, hb⟩ := hrel
    have HB := Lib.hid hb
    have HNO := Lib.hid hno
    by_cases hkn : k < n
    rotate_left
    · have q : ¬ (k : Int) < (n : Int) := by omega
      have HE := Lib.hid (show ∀ x ∈ es, pr x = false by
        have := HNO.out
        rwa [List.take_of_length_le (by have := HN.out; omega)] at this)
      clear hb hk hno hkn
      go_wp2_with fail
      go_ret
      exact ⟨-1, rfl, .inl ⟨rfl, HE.out⟩, HB.out⟩
    have q : (k : Int) < (n : Int) := by omega
    have w1 : IntKind.i64.wrap ((k : Int) + 1) = (k : Int) + 1 := IntWalk.i64_in _ (by have := HN.out; omega)
    obtain ⟨x, hx⟩ : ∃ x, es[k]? = some x := ⟨_, List.getElem?_eq_getElem (by rw [HN.out.1]; exact hkn)⟩
    have hxm := List.mem_of_getElem? hx
    obtain ⟨b, of_, hA, hlo, hbl, hc⟩ := HR.out.at_ (by omega)
    have CL := Lib.hid (show ∀ j v, x.L[j]? = some v → wr.cell? ⟨b, of_ + k * 26 + j, none⟩ = some v from fun j v hv => (HB.out.cell (p := ⟨b, of_ + k * 26 + j, none⟩) hbl).trans (hc k x hx j v hv))
    have IX := Lib.hid (show (Try.prog.info? 49).map (·.size) = some x.L.length from pkL_info (HO.out x hxm))
    have EQ := Lib.hid (show Calls Try.prog 28 #[.agg x.L.toArray, .pointer (some ⟨bx, 0, none⟩)] wr (Ret wr (.bool (pr x))) from CC.out x hxm wr HB.out)
    have HT := Lib.hid (show es.take (k + 1) = es.take k ++ [x] by rw [List.take_add_one, hx]; rfl)
    have HKN := Lib.hid hkn
    have HXE := Lib.hid hx
    subst hA
    cases hpx : pr x
    · rw [hpx] at EQ
      have HF := Lib.hid (show ∀ y ∈ es.take (k + 1), pr y = false by
        intro y hy
        rw [HT.out] at hy
        rcases List.mem_append.1 hy with hy | hy
        · exact HNO.out y hy
        · rw [List.mem_singleton.1 hy]; exact hpx)
      clear hb hk hno hkn hx hxm hlo hbl hc hpx
      generalize x.L = X at *
      go_wp2_with (first
        | (refine partC.wpList_load_part rfl 49 (.tmp 14) rfl b (of_ + k * 26) rfl X _ CL.out Try.underlying49 rfl IX.out ?_)
        | (refine EQ.out.mono ?_; rintro e w2 ⟨rfl, hb2⟩; have HB2 := Lib.hid hb2; clear hb2))
      go_roundw
      case rel => exact ⟨k + 1, by simp, by have := HKN.out; omega, HF.out, HB.out.trans (HB2.out.mono HB.out.size)⟩
      case measure => have := HN.out; have := HKN.out; simp [intOf]; omega
    · rw [hpx] at EQ
      have HF := Lib.hid hpx
      clear hb hk hno hkn hx hxm hlo hbl hc hpx w1
      generalize x.L = X at *
      go_wp2_with (first
        | (refine partC.wpList_load_part rfl 49 (.tmp 14) rfl b (of_ + k * 26) rfl X _ CL.out Try.underlying49 rfl IX.out ?_)
        | (refine EQ.out.mono ?_; rintro e w2 ⟨rfl, hb2⟩; have HB2 := Lib.hid hb2; clear hb2))
      go_ret
      exact ⟨(k : Int), rfl, .inr ⟨k, x, rfl, HXE.out, HF.out, HNO.out⟩, HB.out.trans (HB2.out.mono HB.out.size)⟩
set_option maxRecDepth 100000 in
set_option maxHeartbeats 4000000 in
theorem index_get1 (n1 : Int) (bx : Nat) (A : Option Addr) (lo n c : Nat) (es : List Ke) (w : World) (hr : RowK w lo w.heap.size A n es) (ho : ∀ x ∈ es, x.k.Ok) (hn2 : n ≤ 1000) (R : w.heap[bx]? = some (.cells #[.int .i64 n1] 3 (0, 0))) :
    Calls Try.prog 27 #[.slice A n c, .func (.func 41) #[] #[.pointer (some ⟨bx, 0, none⟩)]] w (IdxR w es (fun x => decide (x.val.1.n = n1))) := by
  have HR := Lib.hid hr
  have HO := Lib.hid ho
  have HX := Lib.hid R
  have HN := Lib.hid (show es.length = n ∧ n ≤ 1000 from ⟨hr.len, hn2⟩)
  obtain ⟨pr, hpr⟩ : ∃ f : Ke → Bool, f = fun x => decide (x.val.1.n = n1) := ⟨_, rfl⟩
  rw [← hpr]
  have CC := Lib.hid (fun x (hxm : x ∈ es) w2 (hb2 : Below w.heap.size w w2) => (show Calls Try.prog 41 #[.agg x.V, .pointer (some ⟨bx, 0, none⟩)] w2 (Ret w2 (.bool (pr x))) by rw [hpr]; exact get1_any x n1 bx w2 (HO.out x hxm) ((hb2.block _ (lt_of_row HX.out)).trans HX.out)))
  clear hr ho hn2 hpr R
  go_enter Try.func27, Try.ntmps27
  go_upto_region 2 with fail
  go_loopw [8] (fun u wr => ∃ k : Nat, u = .int .i64 k ∧ k ≤ n ∧ (∀ x ∈ es.take k, pr x = false) ∧ Below w.heap.size w wr) (fun u _ => 2000 - (intOf u).toNat)
  case atStart => exact ⟨0, rfl, Nat.zero_le _, fun x hx => by (cases hx), Below.refl _ _⟩
  case round =>
    obtain ⟨k, rfl, hk, hno, hb⟩ := hrel
    have HB := Lib.hid hb
    have HNO := Lib.hid hno
    by_cases hkn : k < n
    rotate_left
    · have q : ¬ (k : Int) < (n : Int) := by omega
      have HE := Lib.hid (show ∀ x ∈ es, pr x = false by
        have := HNO.out
        rwa [List.take_of_length_le (by have := HN.out; omega)] at this)
      clear hb hk hno hkn
      go_wp2_with fail
      go_ret
      exact ⟨-1, rfl, .inl ⟨rfl, HE.out⟩, HB.out⟩
    have q : (k : Int) < (n : Int) := by omega
    have w1 : IntKind.i64.wrap ((k : Int) + 1) = (k : Int) + 1 := IntWalk.i64_in _ (by have := HN.out; omega)
    obtain ⟨x, hx⟩ : ∃ x, es[k]? = some x := ⟨_, List.getElem?_eq_getElem (by rw [HN.out.1]; exact hkn)⟩
    have hxm := List.mem_of_getElem? hx
    obtain ⟨b, of_, hA, hlo, hbl, hc⟩ := HR.out.at_ (by omega)
    have CL := Lib.hid (show ∀ j v, x.L[j]? = some v → wr.cell? ⟨b, of_ + k * 26 + j, none⟩ = some v from fun j v hv => (HB.out.cell (p := ⟨b, of_ + k * 26 + j, none⟩) hbl).trans (hc k x hx j v hv))
    have IX := Lib.hid (show (Try.prog.info? 49).map (·.size) = some x.L.length from pkL_info (HO.out x hxm))
    have EQ := Lib.hid (show Calls Try.prog 41 #[.agg x.L.toArray, .pointer (some ⟨bx, 0, none⟩)] wr (Ret wr (.bool (pr x))) from CC.out x hxm wr HB.out)
    have HT := Lib.hid (show es.take (k + 1) = es.take k ++ [x] by rw [List.take_add_one, hx]; rfl)
    have HKN := Lib.hid hkn
    have HXE := Lib.hid hx
    subst hA
    cases hpx : pr x
    · rw [hpx] at EQ
      have HF := Lib.hid (show ∀ y ∈ es.take (k + 1), pr y = false by
        intro y hy
        rw [HT.out] at hy
        rcases List.mem_append.1 hy with hy | hy
        · exact HNO.out y hy
        · rw [List.mem_singleton.1 hy]; exact hpx)
      clear hb hk hno hkn hx hxm hlo hbl hc hpx
      generalize x.L = X at *
      go_wp2_with (first
        | (refine partC.wpList_load_part rfl 49 (.tmp 14) rfl b (of_ + k * 26) rfl X _ CL.out Try.underlying49 rfl IX.out ?_)
        | (refine EQ.out.mono ?_; rintro e w2 ⟨rfl, hb2⟩; have HB2 := Lib.hid hb2; clear hb2))
      go_roundw
      case rel => exact ⟨k + 1, by simp, by have := HKN.out; omega, HF.out, HB.out.trans (HB2.out.mono HB.out.size)⟩
      case measure => have := HN.out; have := HKN.out; simp [intOf]; omega
    · rw [hpx] at EQ
      have HF := Lib.hid hpx
      clear hb hk hno hkn hx hxm hlo hbl hc hpx w1
      generalize x.L = X at *
      go_wp2_with (first
        | (refine partC.wpList_load_part rfl 49 (.tmp 14) rfl b (of_ + k * 26) rfl X _ CL.out Try.underlying49 rfl IX.out ?_)
        | (refine EQ.out.mono ?_; rintro e w2 ⟨rfl, hb2⟩; have HB2 := Lib.hid hb2; clear hb2))
      go_ret
      exact ⟨(k : Int), rfl, .inr ⟨k, x, rfl, HXE.out, HF.out, HNO.out⟩, HB.out.trans (HB2.out.mono HB.out.size)⟩
set_option maxRecDepth 100000 in
set_option maxHeartbeats 4000000 in
theorem index_sends1 (p : Pr) (i1 : Int) (bi bp : Nat) (A : Option Addr) (lo n c : Nat) (es : List Ke) (w : World) (hr : RowK w lo w.heap.size A n es) (ho : ∀ x ∈ es, x.k.Ok) (hn2 : n ≤ 1000) (hp : p.Ok) (Ri : w.heap[bi]? = some (.cells #[.int .u8 i1] 5 (0, 0))) (Rp : w.heap[bp]? = some (.cells (prV p) 30 (0, 0))) :
    Calls Try.prog 27 #[.slice A n c, .func (.func 38) #[] #[.pointer (some ⟨bi, 0, none⟩), .pointer (some ⟨bp, 0, none⟩)]] w (IdxR w es (fun x => decide (x.val.1.si = i1) && govB x.val.1 p)) := by
  have HR := Lib.hid hr
  have HO := Lib.hid ho
  have HX := Lib.hid Ri
  have HY := Lib.hid Rp
  have HP := Lib.hid hp
  have HN := Lib.hid (show es.length = n ∧ n ≤ 1000 from ⟨hr.len, hn2⟩)
  obtain ⟨pr, hpr⟩ : ∃ f : Ke → Bool, f = fun x => decide (x.val.1.si = i1) && govB x.val.1 p := ⟨_, rfl⟩
  rw [← hpr]
  have CC := Lib.hid (fun x (hxm : x ∈ es) w2 (hb2 : Below w.heap.size w w2) => (show Calls Try.prog 38 #[.agg x.V, .pointer (some ⟨bi, 0, none⟩), .pointer (some ⟨bp, 0, none⟩)] w2 (Ret w2 (.bool (pr x))) by rw [hpr]; exact sends1_any x p i1 bi bp w2 (HO.out x hxm) HP.out ((hb2.block _ (lt_of_row HX.out)).trans HX.out) ((hb2.block _ (lt_of_row HY.out)).trans HY.out)))
  clear hr ho hn2 hpr Ri Rp hp
  go_enter Try.func27, Try.ntmps27
  go_upto_region 2 with fail
  go_loopw [8] (fun u wr => ∃ k : Nat, u = .int .i64 k ∧ k ≤ n ∧ (∀ x ∈ es.take k, pr x = false) ∧ Below w.heap.size w wr) (fun u _ => 2000 - (intOf u).toNat)
  case atStart => exact ⟨0, rfl, Nat.zero_le _, fun x hx => by (cases hx), Below.refl _ _⟩
  case round =>
    obtain ⟨k, rfl, hk, hno, hb⟩ := hrel
    have HB := Lib.hid hb
    have HNO := Lib.hid hno
    by_cases hkn : k < n
    rotate_left
    · have q : ¬ (k : Int) < (n : Int) := by omega
      have HE := Lib.hid (show ∀ x ∈ es, pr x = false by
        have := HNO.out
        rwa [List.take_of_length_le (by have := HN.out; omega)] at this)
      clear hb hk hno hkn
      go_wp2_with fail
      go_ret
      exact ⟨-1, rfl, .inl ⟨rfl, HE.out⟩, HB.out⟩
    have q : (k : Int) < (n : Int) := by omega
    have w1 : IntKind.i64.wrap ((k : Int) + 1) = (k : Int) + 1 := IntWalk.i64_in _ (by have := HN.out; omega)
    obtain ⟨x, hx⟩ : ∃ x, es[k]? = some x := ⟨_, List.getElem?_eq_getElem (by rw [HN.out.1]; exact hkn)⟩
    have hxm := List.mem_of_getElem? hx
    obtain ⟨b, of_, hA, hlo, hbl, hc⟩ := HR.out.at_ (by omega)
    have CL := Lib.hid (show ∀ j v, x.L[j]? = some v → wr.cell? ⟨b, of_ + k * 26 + j, none⟩ = some v from fun j v hv => (HB.out.cell (p := ⟨b, of_ + k * 26 + j, none⟩) hbl).trans (hc k x hx j v hv))
    have IX := Lib.hid (show (Try.prog.info? 49).map (·.size) = some x.L.length from pkL_info (HO.out x hxm))
    have EQ := Lib.hid (show Calls Try.prog 38 #[.agg x.L.toArray, .pointer (some ⟨bi, 0, none⟩), .pointer (some ⟨bp, 0, none⟩)] wr (Ret wr (.bool (pr x))) from CC.out x hxm wr HB.out)
    have HT := Lib.hid (show es.take (k + 1) = es.take k ++ [x] by rw [List.take_add_one, hx]; rfl)
    have HKN := Lib.hid hkn
    have HXE := Lib.hid hx
    subst hA
    cases hpx : pr x
    · rw [hpx] at EQ
      have HF := Lib.hid (show ∀ y ∈ es.take (k + 1), pr y = false by
        intro y hy
        rw [HT.out] at hy
        rcases List.mem_append.1 hy with hy | hy
        · exact HNO.out y hy
        · rw [List.mem_singleton.1 hy]; exact hpx)
      clear hb hk hno hkn hx hxm hlo hbl hc hpx
      generalize x.L = X at *
      go_wp2_with (first
        | (refine partC.wpList_load_part rfl 49 (.tmp 14) rfl b (of_ + k * 26) rfl X _ CL.out Try.underlying49 rfl IX.out ?_)
        | (refine EQ.out.mono ?_; rintro e w2 ⟨rfl, hb2⟩; have HB2 := Lib.hid hb2; clear hb2))
      go_roundw
      case rel => exact ⟨k + 1, by simp, by have := HKN.out; omega, HF.out, HB.out.trans (HB2.out.mono HB.out.size)⟩
      case measure => have := HN.out; have := HKN.out; simp [intOf]; omega
    · rw [hpx] at EQ
      have HF := Lib.hid hpx
      clear hb hk hno hkn hx hxm hlo hbl hc hpx w1
      generalize x.L = X at *
      go_wp2_with (first
        | (refine partC.wpList_load_part rfl 49 (.tmp 14) rfl b (of_ + k * 26) rfl X _ CL.out Try.underlying49 rfl IX.out ?_)
        | (refine EQ.out.mono ?_; rintro e w2 ⟨rfl, hb2⟩; have HB2 := Lib.hid hb2; clear hb2))
      go_ret
      exact ⟨(k : Int), rfl, .inr ⟨k, x, rfl, HXE.out, HF.out, HNO.out⟩, HB.out.trans (HB2.out.mono HB.out.size)⟩
set_option maxRecDepth 100000 in
set_option maxHeartbeats 4000000 in
theorem index_gets1 (p : Pr) (i1 : Int) (bi bp : Nat) (A : Option Addr) (lo n c : Nat) (es : List Ke) (w : World) (hr : RowK w lo w.heap.size A n es) (ho : ∀ x ∈ es, x.k.Ok) (hn2 : n ≤ 1000) (hp : p.Ok) (Ri : w.heap[bi]? = some (.cells #[.int .u8 i1] 5 (0, 0))) (Rp : w.heap[bp]? = some (.cells (prV p) 30 (0, 0))) :
    Calls Try.prog 27 #[.slice A n c, .func (.func 40) #[] #[.pointer (some ⟨bi, 0, none⟩), .pointer (some ⟨bp, 0, none⟩)]] w (IdxR w es (fun x => decide (x.val.1.ri = i1) && govB x.val.1 p)) := by
  have HR := Lib.hid hr
  have HO := Lib.hid ho
  have HX := Lib.hid Ri
  have HY := Lib.hid Rp
  have HP := Lib.hid hp
  have HN := Lib.hid (show es.length = n ∧ n ≤ 1000 from ⟨hr.len, hn2⟩)
  obtain ⟨pr, hpr⟩ : ∃ f : Ke → Bool, f = fun x => decide (x.val.1.ri = i1) && govB x.val.1 p := ⟨_, rfl⟩
  rw [← hpr]
  have CC := Lib.hid (fun x (hxm : x ∈ es) w2 (hb2 : Below w.heap.size w w2) => (show Calls Try.prog 40 #[.agg x.V, .pointer (some ⟨bi, 0, none⟩), .pointer (some ⟨bp, 0, none⟩)] w2 (Ret w2 (.bool (pr x))) by rw [hpr]; exact gets1_any x p i1 bi bp w2 (HO.out x hxm) HP.out ((hb2.block _ (lt_of_row HX.out)).trans HX.out) ((hb2.block _ (lt_of_row HY.out)).trans HY.out)))
  clear hr ho hn2 hpr Ri Rp hp
  go_enter Try.func27, Try.ntmps27
  go_upto_region 2 with fail
  go_loopw [8] (fun u wr => ∃ k : Nat, u = .int .i64 k ∧ k ≤ n ∧ (∀ x ∈ es.take k, pr x = false) ∧ Below w.heap.size w wr) (fun u _ => 2000 - (intOf u).toNat)
  case atStart => exact ⟨0, rfl, Nat.zero_le _, fun x hx => by (cases hx), Below.refl _ _⟩
  case round =>
    obtain ⟨k, rfl, hk, hno, hb⟩ := hrel
    have HB := Lib.hid hb
    have HNO := Lib.hid hno
    by_cases hkn : k < n
    rotate_left
    · have q : ¬ (k : Int) < (n : Int) := by omega
      have HE := Lib.hid (show ∀ x ∈ es, pr x = false by
        have := HNO.out
        rwa [List.take_of_length_le (by have := HN.out; omega)] at this)
      clear hb hk hno hkn
      go_wp2_with fail
      go_ret
      exact ⟨-1, rfl, .inl ⟨rfl, HE.out⟩, HB.out⟩
    have q : (k : Int) < (n : Int) := by omega
    have w1 : IntKind.i64.wrap ((k : Int) + 1) = (k : Int) + 1 := IntWalk.i64_in _ (by have := HN.out; omega)
    obtain ⟨x, hx⟩ : ∃ x, es[k]? = some x := ⟨_, List.getElem?_eq_getElem (by rw [HN.out.1]; exact hkn)⟩
    have hxm := List.mem_of_getElem? hx
    obtain ⟨b, of_, hA, hlo, hbl, hc⟩ := HR.out.at_ (by omega)
    have CL := Lib.hid (show ∀ j v, x.L[j]? = some v → wr.cell? ⟨b, of_ + k * 26 + j, none⟩ = some v from fun j v hv => (HB.out.cell (p := ⟨b, of_ + k * 26 + j, none⟩) hbl).trans (hc k x hx j v hv))
    have IX := Lib.hid (show (Try.prog.info? 49).map (·.size) = some x.L.length from pkL_info (HO.out x hxm))
    have EQ := Lib.hid (show Calls Try.prog 40 #[.agg x.L.toArray, .pointer (some ⟨bi, 0, none⟩), .pointer (some ⟨bp, 0, none⟩)] wr (Ret wr (.bool (pr x))) from CC.out x hxm wr HB.out)
    have HT := Lib.hid (show es.take (k + 1) = es.take k ++ [x] by rw [List.take_add_one, hx]; rfl)
    have HKN := Lib.hid hkn
    have HXE := Lib.hid hx
    subst hA
    cases hpx : pr x
    · rw [hpx] at EQ
      have HF := Lib.hid (show ∀ y ∈ es.take (k + 1), pr y = false by
        intro y hy
        rw [HT.out] at hy
        rcases List.mem_append.1 hy with hy | hy
        · exact HNO.out y hy
        · rw [List.mem_singleton.1 hy]; exact hpx)
      clear hb hk hno hkn hx hxm hlo hbl hc hpx
      generalize x.L = X at *
      go_wp2_with (first
        | (refine partC.wpList_load_part rfl 49 (.tmp 14) rfl b (of_ + k * 26) rfl X _ CL.out Try.underlying49 rfl IX.out ?_)
        | (refine EQ.out.mono ?_; rintro e w2 ⟨rfl, hb2⟩; have HB2 := Lib.hid hb2; clear hb2))
      go_roundw
      case rel => exact ⟨k + 1, by simp, by have := HKN.out; omega, HF.out, HB.out.trans (HB2.out.mono HB.out.size)⟩
      case measure => have := HN.out; have := HKN.out; simp [intOf]; omega
    · rw [hpx] at EQ
      have HF := Lib.hid hpx
      clear hb hk hno hkn hx hxm hlo hbl hc hpx w1
      generalize x.L = X at *
      go_wp2_with (first
        | (refine partC.wpList_load_part rfl 49 (.tmp 14) rfl b (of_ + k * 26) rfl X _ CL.out Try.underlying49 rfl IX.out ?_)
        | (refine EQ.out.mono ?_; rintro e w2 ⟨rfl, hb2⟩; have HB2 := Lib.hid hb2; clear hb2))
      go_ret
      exact ⟨(k : Int), rfl, .inr ⟨k, x, rfl, HXE.out, HF.out, HNO.out⟩, HB.out.trans (HB2.out.mono HB.out.size)⟩
set_option maxRecDepth 100000 in
set_option maxHeartbeats 4000000 in
theorem index_add1 (q : Ke) (bx : Nat) (A : Option Addr) (lo n c : Nat) (es : List Ke) (w : World) (hr : RowK w lo w.heap.size A n es) (ho : ∀ x ∈ es, x.k.Ok) (hn2 : n ≤ 1000) (hq : q.k.Ok) (lx : ∀ x ∈ es, x.m.length = x.n) (lq : q.m.length = q.n) (R : w.heap[bx]? = some (.cells q.V 49 (0, 0))) :
    Calls Try.prog 27 #[.slice A n c, .func (.func 32) #[] #[.pointer (some ⟨bx, 0, none⟩)]] w (IdxR w es (fun x => clash x.val q.val)) := by
  have HR := Lib.hid hr
  have HO := Lib.hid ho
  have HX := Lib.hid R
  have HP := Lib.hid (And.intro hq (And.intro lx lq))
  have HN := Lib.hid (show es.length = n ∧ n ≤ 1000 from ⟨hr.len, hn2⟩)
  obtain ⟨pr, hpr⟩ : ∃ f : Ke → Bool, f = fun x => clash x.val q.val := ⟨_, rfl⟩
  rw [← hpr]
  have CC := Lib.hid (fun x (hxm : x ∈ es) w2 (hb2 : Below w.heap.size w w2) => (show Calls Try.prog 32 #[.agg x.V, .pointer (some ⟨bx, 0, none⟩)] w2 (Ret w2 (.bool (pr x))) by rw [hpr]; exact add1_any x q bx w2 (HO.out x hxm) HP.out.1 (HP.out.2.1 x hxm) HP.out.2.2 ((hb2.block _ (lt_of_row HX.out)).trans HX.out)))
  clear hr ho hn2 hpr R hq lx lq
  go_enter Try.func27, Try.ntmps27
  go_upto_region 2 with fail
  go_loopw [8] (fun u wr => ∃ k : Nat, u = .int .i64 k ∧ k ≤ n ∧ (∀ x ∈ es.take k, pr x = false) ∧ Below w.heap.size w wr) (fun u _ => 2000 - (intOf u).toNat)
  case atStart => exact ⟨0, rfl, Nat.zero_le _, fun x hx => by (cases hx), Below.refl _ _⟩
  case round =>
    obtain ⟨k, rfl, hk, hno, hb⟩ := hrel
    have HB := Lib.hid hb
    have HNO := Lib.hid hno
    by_cases hkn : k < n
    rotate_left
    · have q : ¬ (k : Int) < (n : Int) := by omega
      have HE := Lib.hid (show ∀ x ∈ es, pr x = false by
        have := HNO.out
        rwa [List.take_of_length_le (by have := HN.out; omega)] at this)
      clear hb hk hno hkn
      go_wp2_with fail
      go_ret
      exact ⟨-1, rfl, .inl ⟨rfl, HE.out⟩, HB.out⟩
    have q : (k : Int) < (n : Int) := by omega
    have w1 : IntKind.i64.wrap ((k : Int) + 1) = (k : Int) + 1 := IntWalk.i64_in _ (by have := HN.out; omega)
    obtain ⟨x, hx⟩ : ∃ x, es[k]? = some x := ⟨_, List.getElem?_eq_getElem (by rw [HN.out.1]; exact hkn)⟩
    have hxm := List.mem_of_getElem? hx
    obtain ⟨b, of_, hA, hlo, hbl, hc⟩ := HR.out.at_ (by omega)
    have CL := Lib.hid (show ∀ j v, x.L[j]? = some v → wr.cell? ⟨b, of_ + k * 26 + j, none⟩ = some v from fun j v hv => (HB.out.cell (p := ⟨b, of_ + k * 26 + j, none⟩) hbl).trans (hc k x hx j v hv))
    have IX := Lib.hid (show (Try.prog.info? 49).map (·.size) = some x.L.length from pkL_info (HO.out x hxm))
    have EQ := Lib.hid (show Calls Try.prog 32 #[.agg x.L.toArray, .pointer (some ⟨bx, 0, none⟩)] wr (Ret wr (.bool (pr x))) from CC.out x hxm wr HB.out)
    have HT := Lib.hid (show es.take (k + 1) = es.take k ++ [x] by rw [List.take_add_one, hx]; rfl)
    have HKN := Lib.hid hkn
    have HXE := Lib.hid hx
    subst hA
    cases hpx : pr x
    · rw [hpx] at EQ
      have HF := Lib.hid (show ∀ y ∈ es.take (k + 1), pr y = false by
        intro y hy
        rw [HT.out] at hy
        rcases List.mem_append.1 hy with hy | hy
        · exact HNO.out y hy
        · rw [List.mem_singleton.1 hy]; exact hpx)
      clear hb hk hno hkn hx hxm hlo hbl hc hpx
      generalize x.L = X at *
      go_wp2_with (first
        | (refine partC.wpList_load_part rfl 49 (.tmp 14) rfl b (of_ + k * 26) rfl X _ CL.out Try.underlying49 rfl IX.out ?_)
        | (refine EQ.out.mono ?_; rintro e w2 ⟨rfl, hb2⟩; have HB2 := Lib.hid hb2; clear hb2))
      go_roundw
      case rel => exact ⟨k + 1, by simp, by have := HKN.out; omega, HF.out, HB.out.trans (HB2.out.mono HB.out.size)⟩
      case measure => have := HN.out; have := HKN.out; simp [intOf]; omega
    · rw [hpx] at EQ
      have HF := Lib.hid hpx
      clear hb hk hno hkn hx hxm hlo hbl hc hpx w1
      generalize x.L = X at *
      go_wp2_with (first
        | (refine partC.wpList_load_part rfl 49 (.tmp 14) rfl b (of_ + k * 26) rfl X _ CL.out Try.underlying49 rfl IX.out ?_)
        | (refine EQ.out.mono ?_; rintro e w2 ⟨rfl, hb2⟩; have HB2 := Lib.hid hb2; clear hb2))
      go_ret
      exact ⟨(k : Int), rfl, .inr ⟨k, x, rfl, HXE.out, HF.out, HNO.out⟩, HB.out.trans (HB2.out.mono HB.out.size)⟩
set_option maxRecDepth 100000 in
set_option maxHeartbeats 4000000 in
theorem contains_add1 (q : Ke) (bx : Nat) (A : Option Addr) (lo n c : Nat) (es : List Ke) (w : World) (hr : RowK w lo w.heap.size A n es) (ho : ∀ x ∈ es, x.k.Ok) (hn2 : n ≤ 1000) (hq : q.k.Ok) (lx : ∀ x ∈ es, x.m.length = x.n) (lq : q.m.length = q.n) (R : w.heap[bx]? = some (.cells q.V 49 (0, 0))) :
    Calls Try.prog 31 #[.slice A n c, .func (.func 32) #[] #[.pointer (some ⟨bx, 0, none⟩)]] w (Ret w (.bool (es.any fun x => clash x.val q.val))) := by
  have IN := Lib.hid (index_add1 q bx A lo n c es w hr ho hn2 hq lx lq R)
  obtain ⟨pr, hpr⟩ : ∃ f : Ke → Bool, f = fun x => clash x.val q.val := ⟨_, rfl⟩
  rw [← hpr] at IN ⊢
  clear hr ho hn2 hq lx lq R hpr
  go_enter Try.func31, Try.ntmps31
  go_wp2_with (go_at_call 27; refine IN.out.mono ?_; rintro e w2 ⟨r, rfl, hv, hb⟩; have HB := Lib.hid hb; have HV := Lib.hid hv; clear hb hv)
  go_ret
  refine ⟨ret_bool ?_, HB.out⟩
  rcases HV.out with ⟨h1, h2⟩ | ⟨i, x, h1, h2, h3, -⟩
  · rw [List.any_eq_false.2 fun x hx => by rw [h2 x hx]; decide]
    exact decide_eq_false (by omega)
  · rw [List.any_eq_true.2 ⟨x, List.mem_of_getElem? h2, h3⟩]
    exact decide_eq_true (by omega)
end Go.Proofs.Ytflfkhcbkhdahaa.mkC

/-
  The program's ring and the document's, side by side.
-/
namespace Go.Proofs.Ytflfkhcbkhdahaa.mkC
open Go.ChangeShapes Go.WideShapes Go.ChangeAt Go.RowKit
open Go.Proofs.Ytflfkhcbkhdahaa.memC Go.Proofs.Ytflfkhcbkhdahaa.genC Go.Proofs.Ytflfkhcbkhdahaa.butC Go.Proofs.Ytflfkhcbkhdahaa.freeC Go.Proofs.Ytflfkhcbkhdahaa.adC Go.Proofs.Ytflfkhcbkhdahaa.rtC
set_option linter.unusedVariables false
/-- the program's ring at t holds a, the document's at rx holds b -/
structure Pl (Tb : World → (Nat → Prop) → Nat → Rg → Prop) (M rx t : Nat) (w : World) (S : Nat → Prop) (a b : Rg) : Prop where
  tb : Tb w S t a
  sB : ∀ k, S k → M ≤ k
  sr : ¬ S rx
  rg : RgF w rx M b fun k => ¬ S k
/-- what turned: the program's blocks, and the document's ring -/
structure Ex (rx : Nat) (w : World) (S : Nat → Prop) (w' : World) (S' : Nat → Prop) : Prop where
  fs : Fs (fun k => S k ∨ k = rx) w w'
  new : ∀ k, S' k → S k ∨ w.heap.size ≤ k
section
variable {Tb : World → (Nat → Prop) → Nat → Rg → Prop} {M rx t : Nat} {w w' w2 : World} {S S' S2 : Nat → Prop} {a a' b b' : Rg}
theorem Ex.refl : Ex rx w S w S := ⟨Fs.refl _, fun _ h => .inl h⟩
theorem Ex.below (h : Below w.heap.size w w') : Ex rx w S w' S := ⟨Fs.below h, fun _ h => .inl h⟩
theorem Ex.trans (h : Ex rx w S w' S') (h' : Ex rx w' S' w2 S2) : Ex rx w S w2 S2 :=
  ⟨⟨h'.fs.os.trans h.fs.os, h'.fs.tape.trans h.fs.tape, h'.fs.output.trans h.fs.output, Nat.le_trans h.fs.size h'.fs.size, fun k hk hn => (h'.fs.block k (Nat.lt_of_lt_of_le hk h.fs.size) (fun hs => by
    rcases hs with hs | hs
    · rcases h.new k hs with h1 | h1
      · exact hn (.inl h1)
      · omega
    · exact hn (.inr hs))).trans (h.fs.block k hk hn)⟩, fun k hk => by
    rcases h'.new k hk with h1 | h1
    · exact h.new k h1
    · exact .inr (Nat.le_trans h.fs.size h1)⟩
theorem Ex.row (h : Ex rx w S w' S') {g : Nat} {o : Obj} (hr : w.heap[g]? = some o) (h1 : ¬ S g) (h2 : g ≠ rx) : w'.heap[g]? = some o := h.fs.row hr fun hs => hs.elim h1 h2
theorem Pl.lt (h : Pl Tb M rx t w S a b) : rx < w.heap.size := h.rg.at_.lt
theorem Pl.mr (h : Pl Tb M rx t w S a b) : M ≤ rx := by obtain ⟨A, n, c, es, hd, -⟩ := h.rg; exact hd.mr
theorem Ex.to_below (h : Ex rx w S w' S') (hp : Pl Tb M rx t w S a b) : Below M w w' :=
  h.fs.to_below (fun k hk => hk.elim (hp.sB k) fun e => by have := hp.mr; omega) (by have := hp.mr; have := hp.lt; omega)
theorem Pl.below (F : FrK Tb) (h : Pl Tb M rx t w S a b) (hb : Below w.heap.size w w') : Pl Tb M rx t w' S a b :=
  ⟨F.keep w w' S t a h.tb hb.size fun k hk => hb.block k (F.lt _ _ _ _ h.tb k hk), h.sB, h.sr, h.rg.below hb⟩
theorem Pl.prog (F : FrK Tb) (h : Pl Tb M rx t w S a b) (hT : Tb w' S' t a') (hS : ∀ k, S' k → S k ∨ w.heap.size ≤ k) (hF : Fs S w w') : Pl Tb M rx t w' S' a' b ∧ Ex rx w S w' S' := by
  have hm := h.mr
  have hl := h.lt
  refine ⟨⟨hT, fun k hk => ?_, fun hk => ?_, ?_⟩, ⟨hF.mono fun k _ hs => .inl hs, hS⟩⟩
  · rcases hS k hk with h1 | h1
    · exact h.sB k h1
    · omega
  · rcases hS rx hk with h1 | h1
    · exact h.sr h1
    · omega
  · have h2 : RgF w rx M b fun k => ¬ S k ∧ ¬ S' k := h.rg.mono fun k hk hn => ⟨hn, fun hs => by
      rcases hS k hs with h1 | h1
      · exact hn h1
      · omega⟩
    exact (h2.fs hF h.sr h.sB fun k hk hn => hn.1).mono fun k _ hn => hn.2
theorem Pl.doc (F : FrK Tb) (h : Pl Tb M rx t w S a b) (hr : RgF w' rx M b' fun k => ¬ S k) (hb : But rx w w') : Pl Tb M rx t w' S a b' ∧ Ex rx w S w' S :=
  ⟨⟨F.keep w w' S t a h.tb hb.size fun k hk => hb.block k (F.lt _ _ _ _ h.tb k hk) (fun e => h.sr (e ▸ hk)), h.sB, h.sr, hr⟩, ⟨Fs.but hb (.inr rfl), fun _ h => .inl h⟩⟩
end
/-! ### key tuples in a slice, told and asked -/
structure KsP (w : World) (A : Option Addr) (n c : Nat) (es : List Ke) (l : List Kp) : Prop where
  row : RowK w 0 w.heap.size A n es
  ke : ∀ q ∈ es, KeAt w w.heap.size q
  val : es.map Ke.val = l
  nc : n ≤ c
  le : n ≤ 1000
section
variable {w w' : World} {A B : Option Addr} {n c m d : Nat} {es fs : List Ke} {l : List Kp}
theorem KsP.below (h : KsP w A n c es l) (hb : Below w.heap.size w w') : KsP w' A n c es l := ⟨h.row.below hb hb.size, fun q hq => (h.ke q hq).below hb hb.size, h.val, h.nc, h.le⟩
theorem tell_ks {base : Nat} (h2 : n ≤ c) (h3 : OwnP w base (.slice A n c) es) (h4 : es.length = n) (h5 : es.map Ke.val = l) (h6 : ∀ q ∈ es, KeAt w w.heap.size q) (hl : l.length ≤ 1000) : KsP w A n c es l := by
  obtain ⟨A', c', e, -, -, hr⟩ := h3.form (fun q hq => Ke.L_len (h6 q hq))
  rw [h4] at e hr
  cases e
  exact ⟨hr.less (Nat.zero_le _), h6, h5, h2, by rw [← h5, List.length_map, h4] at hl; exact hl⟩
theorem own_ks {base : Nat} (h2 : n ≤ c) (h3 : OwnK w base (.slice A n c) es) (h4 : es.length = n) (h5 : es.map Ke.val = l) (h6 : ∀ q ∈ es, KeAt w w.heap.size q) (hl : l.length ≤ 1000) : KsP w A n c es l := by
  obtain ⟨A', c', e, -, -, hr⟩ := h3.form (fun q hq => Ke.L_len (h6 q hq))
  rw [h4] at e hr
  cases e
  exact ⟨hr.less (Nat.zero_le _), h6, h5, h2, by rw [← h5, List.length_map, h4] at hl; exact hl⟩
/-- ours, of such a slice -/
theorem ours_ks (h : KsP w A n c es l) : Calls Try.prog 22 #[.slice A n c] w fun e w' => ∃ A' n' c', e = .returned (.slice A' n' c') ∧ KsP w' A' n' c' es l ∧ Below w.heap.size w w' :=
  (ours_any w 0 A n c es h.row (fun q hq => (h.ke q hq).ok) h.le).mono fun e w' ⟨A', n', c', h1, h2, h3, h4, h5⟩ =>
    ⟨A', n', c', h1, own_ks h2 h4 h3 h.val (fun q hq => (h.ke q hq).below h5 h5.size) (by rw [← h.val, List.length_map, h.row.len]; exact h.le), h5⟩
theorem same_ks (h : KsP w A n c es l) (h' : KsP w B m d fs l) : Calls Try.prog 21 #[.slice A n c, .slice B m d] w (Ret w (.bool true)) := by
  have := rsameall_any w 0 0 A n c es B m d fs h.row h'.row h.ke h'.ke (by have := h.le; omega) (by have := h'.le; omega)
  rwa [decide_eq_true (h.val.trans h'.val.symm)] at this
theorem RgD.ks {r M : Nat} {rg : Rg} (h : RgD w r M A n c es rg) : KsP w A n c es rg.l :=
  ⟨h.keys.less (Nat.zero_le _), fun q hq => (h.ok q hq).below (Below.refl _ _) (by have := h.mr; have := h.lt; omega), h.val, h.nc, by have := h.le; omega⟩
end
/-- a slice of three -/
theorem flat3 (q1 q2 q3 : Ke) : flatK [q1, q2, q3] = q1.L ++ (q2.L ++ q3.L) := by unfold flatK; simp
theorem row3 {w : World} {g : Nat} {T : TypeId} {q1 q2 q3 : Ke} (hr : w.heap[g]? = some (.cells (flatK [q1, q2, q3]).toArray T (0, 0))) (h1 : q1.L.length = 26) (h2 : q2.L.length = 26) (h3 : q3.L.length = 26) : RowK w 0 w.heap.size (some ⟨g, 0, none⟩) 3 [q1, q2, q3] := by
  refine ⟨rfl, fun _ => ⟨g, 0, rfl, Nat.zero_le _, (Array.getElem?_eq_some_iff.1 hr).1, fun i f hf j v hv => ?_⟩⟩
  have hok : ∀ e ∈ [q1, q2, q3], e.L.length = 26 := fun e he => by
    simp at he
    rcases he with rfl | rfl | rfl
    · exact h1
    · exact h2
    · exact h3
  have hj : j < 26 := by
    have := (List.getElem?_eq_some_iff.1 hv).1
    rw [hok f (List.mem_of_getElem? hf)] at this
    exact this
  rw [show 0 + i * 26 + j = i * 26 + j by omega, cell_of_row w g (i * 26 + j) _ _ (0, 0) hr, List.getElem?_toArray, flatK_at hok i f j hf hj]
  exact hv
theorem pk_infoK : (Try.prog.info? 49).map (fun i => (i.zero, i.size, i.bytes)) = some (some (.agg (ktV zKt none 0 0)), 26, 88) := by kernel_rfl
theorem lit3_J {R : Value → World → Prop} {fr : Act} {o : Oper} {w : World} {Q : Exit → Act → World → Prop} {LT ET : TypeId} (s1 s2 s3 : Tmp) (ho : o.op = .buildSlice LT 3 #[(0, .tmp s1), (1, .tmp s2), (2, .tmp s3)]) (hu : Try.prog.underlying LT = some (.slice ET)) (hi : (Try.prog.info? ET).map (fun i => (i.zero, i.size, i.bytes)) = some (some (.agg (ktV zKt none 0 0)), 26, 88)) (q1 q2 q3 : Ke) (hx1 : fr.tmps[s1]?.getD undef = .agg q1.V) (hx2 : fr.tmps[s2]?.getD undef = .agg q2.V) (hx3 : fr.tmps[s3]?.getD undef = .agg q3.V) (h1 : q1.L.length = 26) (h2 : q2.L.length = 26) (h3 : q3.L.length = 26)
    (h : R (.slice (some ⟨w.heap.size, 0, none⟩) 3 3) (w.alloc (.cells (flatK [q1, q2, q3]).toArray ET))) : o.wp Try.prog fr w (fun a' w' => ∃ v, a' = fr.put o.dst v ∧ R v w') Q := by
  obtain ⟨ie, hie, he⟩ := Option.map_eq_some_iff.1 hi
  obtain ⟨hz, he2⟩ := Prod.mk.inj he
  obtain ⟨hs, hb⟩ := Prod.mk.inj he2
  refine wp_buildSlice LT ET 3 _ ho (flatK [q1, q2, q3]).toArray ie _ hu hie hz (by rw [hs]; decide) (by rw [hs]; decide) ?_ ⟨_, rfl, h⟩
  rw [hs]
  have hq : ∀ q : Ke, q.V.size = q.L.length := fun q => by unfold Ke.V ktV; rw [List.size_toArray]; rfl
  have hz26 : (Value.agg (ktV zKt none 0 0)).cells.size = 26 := zV_size
  have := Great.fill_whole (s := 26) (by decide) [Value.agg q1.V, Value.agg q2.V, Value.agg q3.V] ((Array.range (3 * 26)).map ((Value.agg (ktV zKt none 0 0)).cells[· % (Value.agg (ktV zKt none 0 0)).cells.size]!)) (by
    intro v hv
    simp at hv
    rcases hv with rfl | rfl | rfl
    · show q1.V.size = 26; rw [hq, h1]
    · show q2.V.size = 26; rw [hq, h2]
    · show q3.V.size = 26; rw [hq, h3]) (by simp)
  have e1 := ev_tmpM hx1
  have e2 := ev_tmpM hx2
  have e3 := ev_tmpM hx3
  rw [flat3]
  simpa [e1, e2, e3, Value.cells, Ke.V, ktV, Ke.L] using this
theorem eql_ptr_nilM {P : Program} (w : World) {tp te : TypeId} (a : Addr) (hp : P.underlying tp = some (.pointer te)) : (binOp .eql tp (.pointer (some a)) (.pointer none)).run P w = .ok (.bool false) w := by
  have h : ∀ d : Nat, (Op.equalIn (d + 1) tp (.pointer (some a)) (.pointer none)).run P w = .ok false w := fun d => by
    simp [Op.equalIn, run_underlying hp]
  simp only [binOp]
  simp [Op.equal, Op.maxDepth, h 9999]
set_option maxRecDepth 100000 in
theorem zRg_info : (Try.prog.info? 35).map (·.zero) = some (some (.agg #[.int .i64 0, .slice none 0 0])) := by kernel_rfl
theorem zeroRg (w : World) : (zeroValue 35).run Try.prog w = .ok (.agg #[.int .i64 0, .slice none 0 0]) w := by
  obtain ⟨i, hi, hz⟩ := Option.map_eq_some_iff.1 zRg_info
  simp [zeroValue, typeInfo, hi, hz]
end Go.Proofs.Ytflfkhcbkhdahaa.mkC
