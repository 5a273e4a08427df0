/-
  4 texts of a proof, joined.
-/
import Derived.Test.YtflfkhcbkhdahaaMg18
import Derived.Test.YtflfkhcbkhdahaaMg13
import Derived.Test.YtflfkhcbkhdahaaMg9

/-
  The laws' theirs and ours.
-/
namespace Go.Proofs.Ytflfkhcbkhdahaa.mkC
open Go.ChangeShapes Go.WideShapes Go.ChangeAt Go.RowKit
open Go.Proofs.Ytflfkhcbkhdahaa.memC Go.Proofs.Ytflfkhcbkhdahaa.genC Go.Proofs.Ytflfkhcbkhdahaa.butC Go.Proofs.Ytflfkhcbkhdahaa.freeC Go.Proofs.Ytflfkhcbkhdahaa.adC Go.Proofs.Ytflfkhcbkhdahaa.rtC
set_option linter.unusedVariables false
attribute [local go_sem] Oper.semAt_some
theorem len_succM {l : List Int} {n : Nat} (h : l.length = n + 1) : ∃ x r, l = x :: r ∧ r.length = n := by
  cases l with
  | nil => cases h
  | cons x r => exact ⟨x, r, rfl, by simpa using h⟩
theorem len16M {l : List Int} (h : l.length = 16) : ∃ a0 a1 a2 a3 a4 a5 a6 a7 a8 a9 a10 a11 a12 a13 a14 a15, l = [a0, a1, a2, a3, a4, a5, a6, a7, a8, a9, a10, a11, a12, a13, a14, a15] := by
  obtain ⟨a0, l0, rfl, h0⟩ := len_succM h
  obtain ⟨a1, l1, rfl, h1⟩ := len_succM h0
  obtain ⟨a2, l2, rfl, h2⟩ := len_succM h1
  obtain ⟨a3, l3, rfl, h3⟩ := len_succM h2
  obtain ⟨a4, l4, rfl, h4⟩ := len_succM h3
  obtain ⟨a5, l5, rfl, h5⟩ := len_succM h4
  obtain ⟨a6, l6, rfl, h6⟩ := len_succM h5
  obtain ⟨a7, l7, rfl, h7⟩ := len_succM h6
  obtain ⟨a8, l8, rfl, h8⟩ := len_succM h7
  obtain ⟨a9, l9, rfl, h9⟩ := len_succM h8
  obtain ⟨a10, l10, rfl, h10⟩ := len_succM h9
  obtain ⟨a11, l11, rfl, h11⟩ := len_succM h10
  obtain ⟨a12, l12, rfl, h12⟩ := len_succM h11
  obtain ⟨a13, l13, rfl, h13⟩ := len_succM h12
  obtain ⟨a14, l14, rfl, h14⟩ := len_succM h13
  obtain ⟨a15, l15, rfl, h15⟩ := len_succM h14
  obtain rfl := List.eq_nil_of_length_eq_zero h15
  exact ⟨_, _, _, _, _, _, _, _, _, _, _, _, _, _, _, _, rfl⟩
set_option maxRecDepth 100000 in
theorem rk_built0 (s op : Bool) (a0 a1 a2 a3 a4 a5 a6 a7 a8 a9 a10 a11 a12 a13 a14 a15 n ln lp rp si ri al : Int) (A : Option Addr) (m c : Nat) : Try.prog.built 41 [(0, .int .i64 n), (1, .agg (adrK s [a0, a1, a2, a3, a4, a5, a6, a7, a8, a9, a10, a11, a12, a13, a14, a15]).toArray), (2, .int .i64 ln), (3, .int .u16 lp), (4, .int .u16 rp), (5, .int .u8 si), (6, .int .u8 ri), (7, .int .i64 al), (8, .slice A m c), (9, .bool op)] = some (ktV ⟨n, s, [a0, a1, a2, a3, a4, a5, a6, a7, a8, a9, a10, a11, a12, a13, a14, a15], ln, lp, rp, si, ri, al, op⟩ A m c) := by kernel_rfl
theorem rk_built {k : Kt} (h : k.Ok) (A : Option Addr) (m c : Nat) : Try.prog.built 41 [(0, .int .i64 k.n), (1, .agg (adrK k.s k.a).toArray), (2, .int .i64 k.len), (3, .int .u16 k.lp), (4, .int .u16 k.rp), (5, .int .u8 k.si), (6, .int .u8 k.ri), (7, .int .i64 k.alg), (8, .slice A m c), (9, .bool k.opts)] = some (ktV k A m c) := by
  obtain ⟨a0, a1, a2, a3, a4, a5, a6, a7, a8, a9, a10, a11, a12, a13, a14, a15, ha⟩ := len16M h.la
  cases k
  simp only at ha ⊢
  rw [ha]
  exact rk_built0 _ _ _ _ _ _ _ _ _ _ _ _ _ _ _ _ _ _ _ _ _ _ _ _ _ _ _ _
set_option maxRecDepth 100000 in
theorem pk_built0 (s op : Bool) (a0 a1 a2 a3 a4 a5 a6 a7 a8 a9 a10 a11 a12 a13 a14 a15 n ln lp rp si ri al : Int) (A : Option Addr) (m c : Nat) : Try.prog.built 49 [(0, .int .i64 n), (1, .agg (adrK s [a0, a1, a2, a3, a4, a5, a6, a7, a8, a9, a10, a11, a12, a13, a14, a15]).toArray), (2, .int .i64 ln), (3, .int .u16 lp), (4, .int .u16 rp), (5, .int .u8 si), (6, .int .u8 ri), (7, .int .i64 al), (8, .slice A m c), (9, .bool op)] = some (ktV ⟨n, s, [a0, a1, a2, a3, a4, a5, a6, a7, a8, a9, a10, a11, a12, a13, a14, a15], ln, lp, rp, si, ri, al, op⟩ A m c) := by kernel_rfl
theorem pk_built {k : Kt} (h : k.Ok) (A : Option Addr) (m c : Nat) : Try.prog.built 49 [(0, .int .i64 k.n), (1, .agg (adrK k.s k.a).toArray), (2, .int .i64 k.len), (3, .int .u16 k.lp), (4, .int .u16 k.rp), (5, .int .u8 k.si), (6, .int .u8 k.ri), (7, .int .i64 k.alg), (8, .slice A m c), (9, .bool k.opts)] = some (ktV k A m c) := by
  obtain ⟨a0, a1, a2, a3, a4, a5, a6, a7, a8, a9, a10, a11, a12, a13, a14, a15, ha⟩ := len16M h.la
  cases k
  simp only at ha ⊢
  rw [ha]
  exact pk_built0 _ _ _ _ _ _ _ _ _ _ _ _ _ _ _ _ _ _ _ _ _ _ _ _ _ _ _ _
set_option maxRecDepth 100000 in
set_option maxHeartbeats 4000000 in
theorem theirs_any (k : Kt) (A : Option Addr) (m c : Nat) (w : World) (h : k.Ok) : Calls Try.prog 13 #[.agg (ktV k A m c)] w (Ret w (.agg (ktV k A m c))) := by
  have hzv := zeroPk
  obtain ⟨W0, hW0⟩ : ∃ W, W = w.alloc (.cells (ktV k A m c) 41) := ⟨_, rfl⟩
  obtain ⟨W, hW⟩ : ∃ W, W = W0.alloc (.cells (ktV zKt none 0 0) 49) := ⟨_, rfl⟩
  have z0 : W0.heap.size = w.heap.size + 1 := by rw [hW0, alloc_size]
  have B0 : Below w.heap.size w W0 := by rw [hW0]; exact alloc_below _ _
  have B1 : Below W0.heap.size W0 W := by rw [hW]; exact alloc_below _ _
  have HB := Lib.hid (show Below w.heap.size w W from B0.trans (B1.mono (by omega)))
  have R : W.heap[w.heap.size]? = some (.cells (ktV k A m c) 41 (0, 0)) := by rw [B1.block _ (by omega), hW0]; exact heap_alloc_new _ _
  have RZ := Lib.hid (show W.heap[w.heap.size + 1]? = some (.cells (ktV zKt none 0 0) 49 (0, 0)) by rw [hW, ← z0]; exact heap_alloc_new _ _)
  have p0 := kt_cell R kt_n
  have p1 := kt_cell R (kt_len h)
  have p2 := kt_cell R (kt_lp h)
  have p3 := kt_cell R (kt_rp h)
  have p4 := kt_cell R (kt_si h)
  have p5 := kt_cell R (kt_ri h)
  have p6 := kt_cell R (kt_alg h)
  have p7 := kt_cell R (kt_mst h)
  have p8 := kt_cell R (kt_opts h)
  have CS := Lib.hid (show ∀ q v, (adrK k.s k.a)[q]? = some v → W.cell? ⟨w.heap.size, 1 + q, none⟩ = some v from fun q v hv => kt_cell R (kt_src hv))
  have IS := Lib.hid (adrKi k.s h.la)
  have BT := Lib.hid (pk_built h A m c)
  have IQ := Lib.hid (pkV_info (A := A) (m := m) (c := c) h)
  have SQ := Lib.hid (kt_zsize (A := A) (m := m) (c := c) h)
  have OQ := Lib.hid (kt_ones (k := k) (A := A) (m := m) (c := c))
  generalize adrK k.s k.a = KA at *
  generalize ktV k A m c = CP at *
  generalize ktV zKt none 0 0 = ZS at *
  generalize k.n = n1 at *
  generalize k.len = ln1 at *
  generalize k.lp = lp1 at *
  generalize k.rp = rp1 at *
  generalize k.si = si1 at *
  generalize k.ri = ri1 at *
  generalize k.alg = al1 at *
  generalize k.opts = op1 at *
  clear B0 B1 R h
  go_enter Try.func13, Try.ntmps13
  go_upto_region 1 with fail
  rw [← hW0]
  rw [← hW]
  try rw [z0]
  clear hW0 hW z0 hzv
  go_wp2_with (first
    | (refine pkC.wpList_load_partG (by kernel_rfl) 25 (.tmp 5) rfl w.heap.size 1 (by kernel_rfl) KA _ CS.out Try.underlying25 rfl IS.out ?_)
    | (with_reducible refine at_build 49 ?_; refine wpList_runG (by kernel_rfl) _ (built_runM (T := 49) (L := [(0, .int .i64 n1), (1, .agg KA.toArray), (2, .int .i64 ln1), (3, .int .u16 lp1), (4, .int .u16 rp1), (5, .int .u8 si1), (6, .int .u8 ri1), (7, .int .i64 al1), (8, .slice A m c), (9, .bool op1)]) rfl rfl BT.out) ?_)
    | (refine wpList_store_row rfl 49 (.tmp 2) (.tmp 23) rfl (w.heap.size + 1) CP rfl rfl _ _ RZ.out IQ.out SQ.out OQ.out ?_))
  refine bodyPost_ret (v := .agg CP) (Go.results_cell_row Try.results13 _ _ (w.heap.size + 1) _ _ _ _ (by rfl) (setRow_heap _ _ _ _ _ _ RZ.out) Try.underlying49 rfl IQ.out) rfl ?_
  exact ⟨rfl, setR_belowM HB.out (Nat.le_succ _) _⟩
/-- key tuples in a slice of the call's own, as they lay -/
def OursR (w : World) (es : List Ke) (e : Ending) (w' : World) : Prop :=
  ∃ A n c, e = .returned (.slice A n c) ∧ n ≤ c ∧ es.length = n ∧ OwnK w' w.heap.size (.slice A n c) es ∧ Below w.heap.size w w'
set_option maxRecDepth 100000 in
set_option maxHeartbeats 4000000 in
theorem ours_any (w : World) (lo : Nat) (A : Option Addr) (m c : Nat) (es : List Ke) (h : RowK w lo w.heap.size A m es) (hok : ∀ e ∈ es, e.k.Ok) (hm : m ≤ 1000) : Calls Try.prog 22 #[.slice A m c] w (OursR w es) := by
  have hzv := zeroPk
  have H := Lib.hid h
  have LL := Lib.hid h.len
  have HM := Lib.hid hm
  have HOK := Lib.hid hok
  have L26 := Lib.hid (show ∀ e ∈ es, e.L.length = 26 from fun e he => ktL_len (hok e he))
  clear h hok hm
  generalize hZS : ktV zKt none 0 0 = ZS at *
  have HZS := Lib.hid (show ZS.size = 26 by rw [← hZS]; exact zV_size)
  have HZV := Lib.hid hzv
  clear hZS hzv
  go_enter Try.func22, Try.ntmps22
  go_upto_region 3 with fail
  go_loopw [3, 8] (fun v u wr => ∃ (i : Nat) (A' : Option Addr) (n' c' : Nat), i ≤ m ∧ u = .int .i64 i ∧ v = .slice A' n' c' ∧ n' ≤ c' ∧ (es.take i).length = n' ∧ OwnK wr w.heap.size (.slice A' n' c') (es.take i) ∧ Below w.heap.size w wr) (fun v u _ => m - (intOf u).toNat)
  case atStart => exact ⟨0, none, 0, 0, by omega, rfl, rfl, Nat.le_refl _, rfl, OwnK.nil _ _, Below.refl _ _⟩
  case round =>
    obtain ⟨i, A', n', c', hi, rfl, rfl, hnc, hfl, hown, hbw⟩ := hrel
    have HNC := Lib.hid hnc
    have HFL := Lib.hid hfl
    have HO := Lib.hid hown
    have HBW := Lib.hid hbw
    clear hnc hfl hown
    by_cases hlt : i < m
    rotate_left
    · have q6 : ¬ (i : Int) < (m : Int) := by omega
      have hend : es.take i = es := List.take_of_length_le (by rw [LL.out]; omega)
      rw [hend] at HO HFL
      clear hlt hi hend
      go_wp2_with fail
      go_ret
      exact ⟨A', n', c', rfl, HNC.out, HFL.out, HO.out, HBW.out⟩
    have q6 : (i : Int) < (m : Int) := by omega
    obtain ⟨e, hei⟩ : ∃ e, es[i]? = some e := ⟨es[i]'(by rw [LL.out]; omega), List.getElem?_eq_getElem _⟩
    obtain ⟨b, O, hA, hlo, hb, hcs⟩ := (H.out.below hbw hbw.size).at_ (by omega)
    have oe := HOK.out e (List.mem_of_getElem? hei)
    have l26 := L26.out e (List.mem_of_getElem? hei)
    subst hA
    have KC := Lib.hid (hcs i e hei)
    have IX := Lib.hid (show (Try.prog.info? 49).map (·.size) = some e.L.length by rw [l26]; exact pk_info)
    have IV := Lib.hid (show (Try.prog.info? 49).map (·.size) = some e.L.toArray.size by rw [List.size_toArray, l26]; exact pk_info)
    have SX := Lib.hid (show e.L.toArray.size = 26 by rw [List.size_toArray, l26])
    have ZX := Lib.hid (show ZS.size = e.L.toArray.size by rw [HZS.out, List.size_toArray, l26])
    have OX := Lib.hid (show e.L.toArray.all (·.oneCell') = true from kt_ones)
    have HT := Lib.hid (show es.take (i + 1) = es.take i ++ [e] by rw [List.take_add_one, hei]; rfl)
    have ROW := Lib.hid (fun (w' : World) (g' lo : Nat) (h : w'.heap[g']? = some (.cells e.L.toArray 41 (0, 0))) (hlo : lo ≤ g') => (show RowK w' lo w'.heap.size (some ⟨g', 0, none⟩) 1 [e] from rowK1 h hlo))
    have L1 := Lib.hid (show ∀ x ∈ [e], x.L.length = 26 from fun x hx => by rw [List.mem_singleton.1 hx]; exact l26)
    have L2 := Lib.hid (show ∀ x ∈ es.take i, x.L.length = 26 from fun x hx => L26.out x (List.mem_of_mem_take hx))
    have LF := Lib.hid (show n' ≤ 1000 by have := HFL.out; rw [List.length_take] at this; have := HM.out; have := LL.out; omega)
    obtain ⟨w4, hw4⟩ : ∃ w4, w4 = wr.alloc (.cells e.L.toArray 49) := ⟨_, rfl⟩
    obtain ⟨g4, hg4⟩ : ∃ g, g = wr.heap.size := ⟨_, rfl⟩
    have R4 := Lib.hid (show w4.heap[g4]? = some (.cells e.V 49 (0, 0)) by rw [hw4, hg4]; exact heap_alloc_new _ _)
    have AB4 := Lib.hid (show Below wr.heap.size wr w4 by rw [hw4]; exact alloc_below _ _)
    have p0 := kt_cell R4.out kt_n
    have p1 := kt_cell R4.out (kt_len oe)
    have p2 := kt_cell R4.out (kt_lp oe)
    have p3 := kt_cell R4.out (kt_rp oe)
    have p4 := kt_cell R4.out (kt_si oe)
    have p5 := kt_cell R4.out (kt_ri oe)
    have p6 := kt_cell R4.out (kt_alg oe)
    have p7 := kt_cell R4.out (kt_mst oe)
    have p8 := kt_cell R4.out (kt_opts oe)
    have CS := Lib.hid (show ∀ q v, (adrK e.k.s e.k.a)[q]? = some v → w4.cell? ⟨g4, 1 + q, none⟩ = some v from fun q v hv => kt_cell R4.out (kt_src hv))
    have IS := Lib.hid (adrKi e.k.s oe.la)
    have BT := Lib.hid (show Try.prog.built 41 [(0, .int .i64 e.k.n), (1, .agg (adrK e.k.s e.k.a).toArray), (2, .int .i64 e.k.len), (3, .int .u16 e.k.lp), (4, .int .u16 e.k.rp), (5, .int .u8 e.k.si), (6, .int .u8 e.k.ri), (7, .int .i64 e.k.alg), (8, .slice e.A e.n e.c), (9, .bool e.k.opts)] = some e.L.toArray from rk_built oe e.A e.n e.c)
    have O4 := Lib.hid (HO.out.below AB4.out)
    have HB4 := Lib.hid (HBW.out.trans (AB4.out.mono HBW.out.size))
    have AB5 := Lib.hid (alloc_below w4 (.cells e.L.toArray 41))
    have RW := Lib.hid (ROW.out (w4.alloc (.cells e.L.toArray 41)) w4.heap.size 0 (heap_alloc_new _ _) (Nat.zero_le _))
    have O5 := Lib.hid (O4.out.below AB5.out)
    have LB5 := Lib.hid (show w.heap.size ≤ (w4.alloc (.cells e.L.toArray 41)).heap.size from Nat.le_trans HB4.out.size AB5.out.size)
    have HI := Lib.hid hlt
    have wi : IntKind.i64.wrap ((i : Int) + 1) = (i : Int) + 1 := IntWalk.i64_in _ (by have := HM.out; omega)
    have hzv := HZV.out
    generalize hCX : e.L = CX at *
    generalize adrK e.k.s e.k.a = KA at *
    generalize e.k.n = n1 at *
    generalize e.k.len = ln1 at *
    generalize e.k.lp = lp1 at *
    generalize e.k.rp = rp1 at *
    generalize e.k.si = si1 at *
    generalize e.k.ri = ri1 at *
    generalize e.k.alg = al1 at *
    generalize e.k.opts = op1 at *
    generalize e.A = A9 at *
    generalize e.n = n9 at *
    generalize e.c = c9 at *
    clear hei hcs oe l26 hlo hb hlt hi hCX hbw R4 ROW
    go_upto_region 5 with (first
      | (refine pkC.wpList_load_partG (by kernel_rfl) 49 (.tmp 10) rfl b (O + i * 26) (by kernel_rfl) CX _ KC.out Try.underlying49 rfl IX.out ?_)
      | (refine wpList_store_row rfl 49 (.tmp 5) (.tmp 11) rfl wr.heap.size CX.toArray rfl rfl _ _ (heap_alloc_new _ _) IV.out ZX.out OX.out ?_; rw [World.setRow_alloc_new]))
    rw [← hw4, ← hg4]
    clear hw4 hg4 hzv
    go_wp2_with (first
      | (refine pkC.wpList_load_partG (by kernel_rfl) 25 (.tmp 15) rfl g4 1 (by kernel_rfl) KA _ CS.out Try.underlying25 rfl IS.out ?_)
      | (with_reducible refine at_build 41 ?_; refine wpList_runG (by kernel_rfl) _ (built_runM (T := 41) (L := [(0, .int .i64 n1), (1, .agg KA.toArray), (2, .int .i64 ln1), (3, .int .u16 lp1), (4, .int .u16 rp1), (5, .int .u8 si1), (6, .int .u8 ri1), (7, .int .i64 al1), (8, .slice A9 n9 c9), (9, .bool op1)]) rfl rfl BT.out) ?_)
      | (refine wpList_sliceKt rfl (.tmp 33) rfl CX.toArray rfl SX.out ?_)
      | (at_builtin
         (refine wpList_appK _ rfl (.tmp 12) (.tmp 34) rfl w.heap.size _ (es.take i) rfl O5.out L2.out _ _ _ 1 1 [e] rfl RW.out L1.out (by have := LF.out; have := HFL.out; omega) (by decide) LB5.out (n' + 1) (by rw [HFL.out]) ?_)
         intro A11 c11 W3 gl O3 B3 GR3
         have HC11 := Lib.hid gl
         have HO3 := Lib.hid O3
         have HB3 := Lib.hid B3
         clear gl O3 B3 GR3))
    go_roundw
    case rel => exact ⟨i + 1, A11, n' + 1, c11, by have := HI.out; omega, by go_num, rfl, HC11.out, by rw [HT.out, List.length_append, HFL.out]; rfl, by rw [HT.out]; exact HO3.out, (HB4.out.trans (AB5.out.mono HB4.out.size)).trans HB3.out⟩
    case measure => have := HI.out; simp [intOf]; omega
end Go.Proofs.Ytflfkhcbkhdahaa.mkC

/-
  Steps in a row; whether keys are too long: the laws' short and far.
-/
namespace Go.Proofs.Ytflfkhcbkhdahaa.mkC
open Go.ChangeShapes Go.WideShapes Go.ChangeAt Go.RowKit
open Go.Proofs.Ytflfkhcbkhdahaa.memC Go.Proofs.Ytflfkhcbkhdahaa.genC Go.Proofs.Ytflfkhcbkhdahaa.butC Go.Proofs.Ytflfkhcbkhdahaa.freeC Go.Proofs.Ytflfkhcbkhdahaa.adC Go.Proofs.Ytflfkhcbkhdahaa.rtC
set_option linter.unusedVariables false
/-- a step: one call -/
structure Sk where
  drop : Bool
  num : Int
  e : Ke
structure SkAt (w : World) (B : Nat) (s : Sk) : Prop where
  num : -9223372036854775808 ≤ s.num ∧ s.num ≤ 9223372036854775807
  e : KeAt w B s.e
def Sk.cells (s : Sk) : List Value := .bool s.drop :: .int .i64 s.num :: s.e.L
def zSk : Sk := ⟨false, 0, zKe⟩
theorem Sk.cells_len {s : Sk} (h : s.e.k.Ok) : s.cells.length = 28 := by unfold Sk.cells; simp [Ke.L, ktL_len h]
theorem Sk.one {s : Sk} : ∀ u ∈ s.cells, u.oneCell' = true := by
  intro u hu
  unfold Sk.cells at hu
  rcases List.mem_cons.1 hu with rfl | hu
  · rfl
  · rcases List.mem_cons.1 hu with rfl | hu
    · rfl
    · exact kt_one u hu
theorem Sk.ones (s : Sk) : s.cells.toArray.all (·.oneCell') = true := by
  rw [List.all_toArray]
  exact List.all_eq_true.2 Sk.one
theorem Sk.key {s : Sk} (j : Nat) (v : Value) (hv : s.e.L[j]? = some v) : s.cells[2 + j]? = some v := by
  rw [Nat.add_comm]; exact hv
theorem step_info : (Try.prog.info? 43).map (·.size) = some 28 := by kernel_rfl
set_option maxRecDepth 100000 in
theorem zSk_info : (Try.prog.info? 43).map (·.zero) = some (some (.agg zSk.cells.toArray)) := by kernel_rfl
theorem zeroStep (w : World) : (zeroValue 43).run Try.prog w = .ok (.agg zSk.cells.toArray) w := by
  obtain ⟨i, hi, hz⟩ := Option.map_eq_some_iff.1 zSk_info
  simp [zeroValue, typeInfo, hi, hz]
theorem zSk_len : zSk.cells.toArray.size = 28 := by
  rw [List.size_toArray]
  exact Sk.cells_len zKt_ok
theorem Sk.size {s : Sk} (h : s.e.k.Ok) : (Try.prog.info? 43).map (·.size) = some s.cells.toArray.size := by rw [step_info]; simp [Sk.cells_len h]
/-- the slice at A, of n steps, lies below block B -/
structure SksK (w : World) (B : Nat) (A : Option Addr) (n : Nat) (ss : List Sk) : Prop where
  len : ss.length = n
  at_ : 0 < n → ∃ b o, A = some ⟨b, o, none⟩ ∧ b < B ∧ ∀ i s, ss[i]? = some s → ∀ j v, s.cells[j]? = some v → w.cell? ⟨b, o + i * 28 + j, none⟩ = some v
  ok : ∀ s ∈ ss, SkAt w B s
theorem SkAt.below {w w' : World} {B B' : Nat} {s : Sk} (h : SkAt w B s) (hb : Below B w w') (hB : B ≤ B') : SkAt w' B' s := ⟨h.num, h.e.below hb hB⟩
theorem SksK.below {w w' : World} {B B' : Nat} {A : Option Addr} {n : Nat} {ss : List Sk} (h : SksK w B A n ss) (hb : Below B w w') (hB : B ≤ B') : SksK w' B' A n ss :=
  ⟨h.len, fun hn => by
    obtain ⟨b, o, e, hlt, hc⟩ := h.at_ hn
    exact ⟨b, o, e, by omega, fun i f hf j v hv => (hb.cell (p := ⟨b, o + i * 28 + j, none⟩) hlt).trans (hc i f hf j v hv)⟩, fun s hs => (h.ok s hs).below hb hB⟩
theorem SksK.upto {w : World} {B : Nat} {A : Option Addr} {n : Nat} {ss : List Sk} (h : SksK w B A n ss) {m : Nat} (hm : m ≤ n) : SksK w B A m (ss.take m) := by
  refine ⟨by rw [List.length_take, h.len]; omega, fun h0 => ?_, fun s hs => h.ok s (List.mem_of_mem_take hs)⟩
  obtain ⟨b, o, e, hb, hc⟩ := h.at_ (by omega)
  refine ⟨b, o, e, hb, fun i s hs => ?_⟩
  rw [List.getElem?_take] at hs
  split at hs
  · exact hc i s hs
  · cases hs
theorem cut_headK (A : Option Addr) (n c k : Nat) (h : k ≤ c) (w : World) : (Instr.slice 22 (.slice A n c) none (some (.int .i64 (k : Int))) none).run Try.prog w = .ok (.slice A k c) w := by
  have k1 : (k : Int) ≤ (c : Int) := by omega
  have k2 : (0 : Int) ≤ (k : Int) := by omega
  go_simp
theorem short_any (A : Option Addr) (n c : Nat) (w : World) (h : n ≤ c) : Calls Try.prog 9 #[.slice A n c] w fun e w' => e = .returned (.slice A (min n 100) c) ∧ w' = w := by
  have hm : (if (100 : Int) < (n : Int) then (100 : Int) else (n : Int)) = ((min n 100 : Nat) : Int) := by split <;> omega
  have sc := cut_headK A n c (min n 100) (by omega) w
  generalize min n 100 = m at *
  go_enter Try.func9, Try.ntmps9
  go_wp2_with fail
  go_ret
  exact ⟨rfl, rfl⟩
def farK (ss : List Sk) : Bool := ss.any fun s => decide (200 < s.e.n)
theorem farK_take {ss : List Sk} {i : Nat} {s : Sk} (h : ss[i]? = some s) : farK (ss.take (i + 1)) = (farK (ss.take i) || decide (200 < s.e.n)) := by
  unfold farK
  rw [List.take_add_one, h]
  simp
theorem farK_hit {ss : List Sk} {i : Nat} {s : Sk} (h : ss[i]? = some s) (hn : 200 < s.e.n) : farK ss = true := List.any_eq_true.2 ⟨s, List.mem_of_getElem? h, decide_eq_true hn⟩
set_option maxRecDepth 100000 in
set_option maxHeartbeats 4000000 in
theorem far_any (A : Option Addr) (n c : Nat) (ss : List Sk) (w : World) (h : SksK w w.heap.size A n ss) (hnc : n ≤ c) : Calls Try.prog 7 #[.slice A n c] w (Ret w (.bool (farK (ss.take 100)))) := by
  have HP := Lib.hid (h.upto (Nat.min_le_left n 100))
  have e100 : ss.take (min n 100) = ss.take 100 := by
    rcases Nat.le_total n 100 with q | q
    · rw [Nat.min_eq_left q, List.take_of_length_le (by rw [h.len]; exact Nat.le_refl _), List.take_of_length_le (by rw [h.len]; exact q)]
    · rw [Nat.min_eq_right q]
  rw [e100] at HP
  have SA := Lib.hid (fun w' => short_any A n c w' hnc)
  have HM := Lib.hid (show min n 100 ≤ 100 from Nat.min_le_right _ _)
  generalize ss.take 100 = ts at *
  generalize min n 100 = m at *
  have hzv := zeroStep
  have HZ := Lib.hid zSk_len
  generalize zSk.cells.toArray = ZS at *
  have HZV := Lib.hid hzv
  clear h e100 hzv hnc
  obtain ⟨V, hV⟩ : ∃ V, V = farK ts := ⟨_, rfl⟩
  rw [← hV]
  have HV := Lib.hid hV
  clear hV
  go_enter Try.func7, Try.ntmps7
  go_upto_region 2 with (first
    | (go_at_call 9; (refine (SA.out _).mono ?_); rintro e w2 ⟨rfl, hw⟩; obtain rfl := hw.symm))
  go_loopw [8] (fun v wr => ∃ i : Nat, i ≤ m ∧ v = .int .i64 i ∧ farK (ts.take i) = false ∧ Below w.heap.size w wr) (fun v _ => m - (intOf v).toNat)
  case atStart => exact ⟨0, by omega, rfl, rfl, Below.refl _ _⟩
  case round =>
    obtain ⟨i, hi, rfl, hfar, BW⟩ := hrel
    have HBW := Lib.hid BW
    have HFA := Lib.hid hfar
    clear hfar
    by_cases hlt : i < m
    rotate_left
    · have q6 : ¬ (i : Int) < (m : Int) := by omega
      have hend : ts.take i = ts := List.take_of_length_le (by rw [HP.out.len]; omega)
      rw [hend] at HFA
      have hv := Lib.hid (show V = false by rw [HV.out]; exact HFA.out)
      clear hlt hi BW hend
      go_wp2_with fail
      go_ret
      exact ⟨ret_bool hv.out.symm, HBW.out⟩
    have q6 : (i : Int) < (m : Int) := by omega
    have hl1 := HP.out.len
    obtain ⟨s, hsi⟩ : ∃ s, ts[i]? = some s := ⟨ts[i]'(by omega), List.getElem?_eq_getElem _⟩
    obtain ⟨b1, o1, hA1, hb1, c1⟩ := HP.out.at_ (by omega)
    have ms := List.mem_of_getElem? hsi
    have os := HP.out.ok s ms
    have C1 := Lib.hid (show ∀ j v, s.cells[j]? = some v → wr.cell? ⟨b1, o1 + i * 28 + j, none⟩ = some v from fun j v hv => (BW.cell (p := ⟨b1, o1 + i * 28 + j, none⟩) hb1).trans (c1 i s hsi j v hv))
    have IS := Lib.hid (show (Try.prog.info? 43).map (·.size) = some s.cells.length by rw [Sk.cells_len os.e.ok]; exact step_info)
    have IS2 := Lib.hid (Sk.size os.e.ok)
    have ZSZ := Lib.hid (show ZS.size = s.cells.toArray.size by rw [HZ.out]; simp [Sk.cells_len os.e.ok])
    have OS := Lib.hid (Sk.ones s)
    have p26 := Lib.hid (show ∀ (w' : World) (g : Nat), w'.heap[g]? = some (.cells s.cells.toArray 43 (0, 0)) → w'.cell? ⟨g, 26, none⟩ = some (.slice s.e.A s.e.n s.e.c) from fun w' g hr => by
      rw [cell_of_row w' g 26 _ _ (0, 0) hr, List.getElem?_toArray]
      exact Sk.key 24 _ (kt_mst os.e.ok))
    have FT := Lib.hid (farK_take hsi)
    have FH := Lib.hid (fun hn => farK_hit hsi hn)
    have wi : IntKind.i64.wrap ((i : Int) + 1) = (i : Int) + 1 := IntWalk.i64_in _ (by have := HM.out; omega)
    have HI := Lib.hid hlt
    have hzv := HZV.out
    subst hA1
    generalize hCS : s.cells = CS at *
    generalize s.e.A = A9 at *
    generalize s.e.n = n9 at *
    generalize s.e.c = c9 at *
    clear hsi c1 ms os hl1 hb1 hlt hi BW hCS
    go_upto_region 4 with (first
      | (refine pkC.wpList_load_partG (by kernel_rfl) 43 (.tmp 10) rfl b1 (o1 + i * 28) (by kernel_rfl) CS _ C1.out Try.underlying43 rfl IS.out ?_)
      | (refine wpList_store_row rfl 43 (.tmp 4) (.tmp 11) rfl wr.heap.size CS.toArray rfl rfl _ _ (heap_alloc_new _ _) IS2.out ZSZ.out OS.out ?_; rw [World.setRow_alloc_new]))
    have cl := p26.out _ _ (heap_alloc_new wr (.cells CS.toArray 43))
    have AB := Lib.hid (HBW.out.trans ((alloc_below wr (.cells CS.toArray 43)).mono HBW.out.size))
    generalize wr.alloc (.cells CS.toArray 43) = w2 at *
    generalize wr.heap.size = g at *
    clear hzv q6
    by_cases hn : 200 < n9
    · have qn : decide ((n9 : Int) > 200) = true := decide_eq_true (by omega)
      have hv := Lib.hid (show V = true by rw [HV.out]; exact FH.out hn)
      clear hn
      go_wp2_with fail
      go_ret
      exact ⟨ret_bool hv.out.symm, AB.out⟩
    · have qn : decide ((n9 : Int) > 200) = false := decide_eq_false (by omega)
      have hf2 := Lib.hid (show farK (ts.take (i + 1)) = false by rw [FT.out, HFA.out, decide_eq_false hn]; rfl)
      clear hn
      go_wp2_with fail
      go_roundw
      case rel => exact ⟨i + 1, by have := HI.out; omega, by go_num, hf2.out, AB.out⟩
      case measure => have := HI.out; simp [intOf]; omega
end Go.Proofs.Ytflfkhcbkhdahaa.mkC

/-
  What holds of a ring; what is asked of the program's rings.
-/
namespace Go.Proofs.Ytflfkhcbkhdahaa.mkC
open Go.ChangeShapes Go.WideShapes Go.ChangeAt Go.RowKit
open Go.Proofs.Ytflfkhcbkhdahaa.memC Go.Proofs.Ytflfkhcbkhdahaa.genC Go.Proofs.Ytflfkhcbkhdahaa.butC Go.Proofs.Ytflfkhcbkhdahaa.freeC Go.Proofs.Ytflfkhcbkhdahaa.adC Go.Proofs.Ytflfkhcbkhdahaa.rtC
set_option linter.unusedVariables false
/-! ### two that govern one pair meet -/
theorem port_two {x y p : Int} (hx : portB x p = true) (hy : portB y p = true) : (portB x y || decide (y = 0)) = true := by
  unfold portB at *
  simp at hx hy ⊢
  omega
theorem gov_meet {a b : Kt} {m m' : Nat} {p : Pr} (ma : mayB a m = true) (mb : mayB b m' = true) (ga : govB a p = true) (gb : govB b p = true) (ha : a.Ok) (hb : b.Ok) (hp : p.Ok) : meetB a m b m' = true := by
  unfold govB at ga gb
  simp only [Bool.and_eq_true] at ga gb
  obtain ⟨la, pa, qa⟩ := ga
  obtain ⟨lb, pb, qb⟩ := gb
  have la := (lies_bits hp.lr ha.la hp.yr ha.ya).1 la
  have lb := (lies_bits hp.lr hb.la hp.yr hb.ya).1 lb
  have hl : (if a.len > b.len then liesK a b else liesK b a) = true := by
    split
    · exact (lies_bits ha.la hb.la ha.ya hb.ya).2 ⟨la.1.symm.trans lb.1, lb.2.1, by rw [← la.1]; exact lb.2.2.1, fun i hi => (la.2.2.2 i (by omega)).symm.trans (lb.2.2.2 i hi)⟩
    · exact (lies_bits hb.la ha.la hb.ya ha.ya).2 ⟨lb.1.symm.trans la.1, la.2.1, by rw [← lb.1]; exact la.2.2.1, fun i hi => (lb.2.2.2 i (by omega)).symm.trans (la.2.2.2 i hi)⟩
  unfold meetB
  rw [ma, mb, hl, port_two pa pb, port_two qa qb]
  rfl
/-! ### what holds of a ring -/
structure Inv (r : Rg) : Prop where
  le : r.l.length ≤ 32
  may : ∀ x ∈ r.l, mayB x.1 x.2.length = true
  apart : r.l.Pairwise fun x y => clash x y = false
  num : r.l.Pairwise fun x y => x.1.n < y.1.n
  bd : ∀ x ∈ r.l, 1 ≤ x.1.n ∧ x.1.n ≤ r.last
  l0 : 0 ≤ r.last
  l1 : r.last ≤ 2147483647
  ok : ∀ x ∈ r.l, x.1.Ok ∧ ∀ b ∈ x.2, Byte b
theorem Inv.zero : Inv ⟨0, []⟩ := ⟨Nat.zero_le _, (fun x h => by cases h), List.Pairwise.nil, List.Pairwise.nil, (fun x h => by cases h), Int.le_refl _, by decide, (fun x h => by cases h)⟩
theorem dropL_sub (n : Int) : ∀ l : List Kp, (dropL n l).Sublist l
  | [] => List.Sublist.refl _
  | x :: l => by
    unfold dropL
    split
    · exact List.sublist_cons_self _ _
    · exact (dropL_sub n l).cons_cons x
theorem Inv.drop {r : Rg} (h : Inv r) (n : Int) : Inv (dropR r n) :=
  have hs := dropL_sub n r.l
  ⟨Nat.le_trans hs.length_le h.le, fun x hx => h.may x (hs.subset hx), h.apart.sublist hs, h.num.sublist hs, fun x hx => h.bd x (hs.subset hx), h.l0, h.l1, fun x hx => h.ok x (hs.subset hx)⟩
theorem addErr_zero {r : Rg} {k : Kp} (h : addErr r k = 0) : mayB k.1 k.2.length = true ∧ (∀ x ∈ r.l, clash x k = false) ∧ r.l.length < 32 ∧ r.last < 2147483647 := by
  unfold addErr at h
  split at h
  · rename_i hm
    split at h
    · cases h
    · rename_i hc
      split at h
      · cases h
      · rename_i hf
        refine ⟨hm, fun x hx => ?_, by omega, by omega⟩
        cases e : clash x k with
        | false => rfl
        | true => exact absurd (List.any_eq_true.2 ⟨x, hx, e⟩) hc
  · cases h
theorem Inv.add {r : Rg} (h : Inv r) {k : Kp} (hk : k.1.Ok) (hy : ∀ b ∈ k.2, Byte b) : Inv (addR r k) := by
  unfold addR
  split
  · rename_i he
    obtain ⟨h1, h2, h3, h4⟩ := addErr_zero he
    have l0 := h.l0
    refine ⟨by rw [List.length_append]; simp; omega, fun x hx => ?_, ?_, ?_, fun x hx => ?_, by show 0 ≤ r.last + 1; omega, by show r.last + 1 ≤ _; omega, fun x hx => ?_⟩
    · rcases List.mem_append.1 hx with hx | hx
      · exact h.may x hx
      · rw [List.mem_singleton.1 hx]; exact h1
    · refine List.pairwise_append.2 ⟨h.apart, List.pairwise_singleton _ _, fun x hx y hy => ?_⟩
      rw [List.mem_singleton.1 hy]
      exact h2 x hx
    · refine List.pairwise_append.2 ⟨h.num, List.pairwise_singleton _ _, fun x hx y hy => ?_⟩
      rw [List.mem_singleton.1 hy]
      have := (h.bd x hx).2
      show x.1.n < r.last + 1
      omega
    · rcases List.mem_append.1 hx with hx | hx
      · have := h.bd x hx
        show 1 ≤ x.1.n ∧ x.1.n ≤ r.last + 1
        omega
      · rw [List.mem_singleton.1 hx]
        show 1 ≤ r.last + 1 ∧ r.last + 1 ≤ r.last + 1
        omega
    · rcases List.mem_append.1 hx with hx | hx
      · exact h.ok x hx
      · rw [List.mem_singleton.1 hx]; exact ⟨kt_numOk hk (by omega), hy⟩
  · exact h
/-- of a pair no two have one SendID, or one RecvID -/
theorem Inv.once {r : Rg} (h : Inv r) {p : Pr} (hp : p.Ok) : (forL r p).Pairwise fun x y => x.1.si ≠ y.1.si ∧ x.1.ri ≠ y.1.ri := by
  have hs : (forL r p).Sublist r.l := List.filter_sublist
  refine List.Pairwise.imp_of_mem (R := fun x y => clash x y = false) (fun {x y} hx hy hc => ?_) (h.apart.sublist hs)
  obtain ⟨mx, gx⟩ := List.mem_filter.1 hx
  obtain ⟨my, gy⟩ := List.mem_filter.1 hy
  have hm := gov_meet (h.may x mx) (h.may y my) gx gy (h.ok x mx).1 (h.ok y my).1 hp
  unfold clash at hc
  rw [hm] at hc
  simp at hc
  exact hc
theorem getP_drop {r : Rg} (h : Inv r) (n : Int) : (getP (dropR r n) n).2 = 6 := by
  have key : ∀ l : List Kp, l.Pairwise (fun x y => x.1.n < y.1.n) → ∀ x ∈ dropL n l, x.1.n ≠ n := by
    intro l
    induction l with
    | nil => intro _ x hx; cases hx
    | cons y l ih =>
      intro hp x hx
      obtain ⟨h1, h2⟩ := List.pairwise_cons.1 hp
      unfold dropL at hx
      split at hx
      · rename_i e
        have := h1 x hx
        omega
      · rename_i e
        rcases List.mem_cons.1 hx with rfl | hx
        · exact e
        · exact ih h2 x hx
  unfold getP pickP
  rw [List.find?_eq_none.2 fun x hx => by
    have := key r.l h.num x hx
    simpa using this]
/-! ### what is asked of the program's rings -/
/-- all but the blocks of S stand -/
structure Fs (S : Nat → Prop) (w w' : World) : Prop where
  os : w'.os = w.os
  tape : w'.tape = w.tape
  output : w'.output = w.output
  size : w.heap.size ≤ w'.heap.size
  block : ∀ k, k < w.heap.size → ¬ S k → w'.heap[k]? = w.heap[k]?
section
variable {S S' : Nat → Prop} {w w1 w2 : World}
theorem Fs.below (h : Below w.heap.size w w1) : Fs S w w1 := ⟨h.os, h.tape, h.output, h.size, fun k hk _ => h.block k hk⟩
theorem Fs.refl (w : World) : Fs S w w := Fs.below (Below.refl _ _)
theorem Fs.but {r : Nat} (h : But r w w1) (hr : S r) : Fs S w w1 := ⟨h.os, h.tape, h.output, h.size, fun k hk hn => h.block k hk fun e => hn (e ▸ hr)⟩
theorem Fs.trans (h : Fs S w w1) (h' : Fs S w1 w2) : Fs S w w2 :=
  ⟨h'.os.trans h.os, h'.tape.trans h.tape, h'.output.trans h.output, Nat.le_trans h.size h'.size, fun k hk hn => (h'.block k (by have := h.size; omega) hn).trans (h.block k hk hn)⟩
theorem Fs.to_below {B : Nat} (h : Fs S w w1) (hB : ∀ k, S k → B ≤ k) (hw : B ≤ w.heap.size) : Below B w w1 :=
  ⟨h.os, h.tape, h.output, h.size, fun k hk => h.block k (by omega) fun hs => by have := hB k hs; omega⟩
theorem Fs.mono (h : Fs S w w1) (hS : ∀ k, k < w.heap.size → S k → S' k) : Fs S' w w1 := ⟨h.os, h.tape, h.output, h.size, fun k hk hn => h.block k hk fun hs => hn (hS k hk hs)⟩
theorem Fs.row (h : Fs S w w1) {g : Nat} {o : Obj} (hr : w.heap[g]? = some o) (hn : ¬ S g) : w1.heap[g]? = some o := by rw [h.block g (Array.getElem?_eq_some_iff.1 hr).1 hn]; exact hr
end
/-- the document's ring, where others' blocks turn -/
theorem RgF.fs {S P : Nat → Prop} {w w' : World} {r M : Nat} {rg : Rg} (h : RgF w r M rg P) (F : Fs S w w') (hr : ¬ S r) (hM : ∀ k, S k → M ≤ k) (hP : ∀ b, b < w.heap.size → P b → ¬ S b) : RgF w' r M rg P := by
  obtain ⟨A, n, c, es, hd, hp⟩ := h
  refine ⟨A, n, c, es, ⟨F.row hd.row hr, ⟨hd.keys.len, fun hn => ?_⟩, fun e he => (hd.ok e he).below (F.to_below hM (by have := hd.mr; have := hd.lt; omega)) (Nat.le_refl _), hd.val, hd.nc, hd.cm, hd.le, hd.mr, hd.l0, hd.l1, hd.nil⟩, hp⟩
  obtain ⟨b, o, e, hlo, hlt, hc⟩ := hd.keys.at_ hn
  refine ⟨b, o, e, hlo, by have := F.size; omega, fun i f hf j v hv => ?_⟩
  have hb := F.block b hlt (hP b hlt (hp hn b o e))
  exact (World.cell?_of_block (w := w) (a := ⟨b, o + i * 26 + j, none⟩) hb).trans (hc i f hf j v hv)
theorem RgF.mono {P Q : Nat → Prop} {w : World} {r M : Nat} {rg : Rg} (h : RgF w r M rg P) (hPQ : ∀ b, b < w.heap.size → P b → Q b) : RgF w r M rg Q := by
  obtain ⟨A, n, c, es, hd, hp⟩ := h
  refine ⟨A, n, c, es, hd, fun hn b o e => ?_⟩
  obtain ⟨b', o', e', -, hlt, -⟩ := hd.keys.at_ hn
  rw [e] at e'
  cases e'
  exact hPQ b hlt (hp hn b o e)
/-- the program's key tuples in a slice of the call's own -/
def OwnP (w : World) (base : Nat) (v : Value) (es : List Ke) : Prop := w.ownsRow base 49 26 v es.length (flatK es)
theorem OwnP.form {w : World} {base : Nat} {v : Value} {es : List Ke} (h : OwnP w base v es) (hok : ∀ e ∈ es, e.L.length = 26) : ∃ A cap, v = .slice A es.length cap ∧ es.length ≤ cap ∧ cap ≤ maxLen ∧ RowK w base w.heap.size A es.length es := by
  rcases h.2 with ⟨rfl, h0⟩ | ⟨g, cap, cur, rfl, hb, hh, hl, hm, hs, ht⟩
  · rw [h0]
    exact ⟨none, 0, rfl, Nat.le_refl _, by simp [maxLen], ⟨h0, fun h => absurd h (Nat.lt_irrefl 0)⟩⟩
  · refine ⟨some ⟨g, 0, none⟩, cap, rfl, hl, hm, rfl, fun hn => ⟨g, 0, rfl, hb, (h.lt g rfl).2, fun i e he j v hv => ?_⟩⟩
    have hj : j < 26 := by
      have := (List.getElem?_eq_some_iff.1 hv).1
      rw [hok e (List.mem_of_getElem? he)] at this
      exact this
    have h1 := World.ownsRow.cells h (g := g) rfl (i * 26 + j) v (by rw [flatK_at hok i e j he hj]; exact hv)
    rw [memC.add_plain] at h1
    rw [show 0 + i * 26 + j = 0 + (i * 26 + j) by omega]
    exact h1
/-- a call that turns the ring -/
def TurnR (Tb : World → (Nat → Prop) → Nat → Rg → Prop) (w : World) (S : Nat → Prop) (t : Nat) (v : Value) (rg : Rg) (e : Ending) (w' : World) : Prop :=
  e = .returned v ∧ ∃ S', Tb w' S' t rg ∧ (∀ k, S' k → S k ∨ w.heap.size ≤ k) ∧ Fs S w w'
/-- a call that finds one -/
def FindR (w : World) (o : Kp × Int) (e : Ending) (w' : World) : Prop := ∃ q : Ke, KeAt w' w'.heap.size q ∧ q.val = o.1 ∧ e = .returned (.tuple #[.agg q.V, .int .i64 o.2]) ∧ Below w.heap.size w w'
/-- a call that tells some: rows and master keys are the asker's own -/
def TellR (w : World) (l : List Kp) (e : Ending) (w' : World) : Prop :=
  ∃ A n c es, e = .returned (.slice A n c) ∧ n ≤ c ∧ OwnP w' w.heap.size (.slice A n c) es ∧ es.length = n ∧ es.map Ke.val = l ∧ (∀ q ∈ es, KeAt w' w'.heap.size q ∧ Own .u8 5 w' w.heap.size (.slice q.A q.n q.c) q.m) ∧ Below w.heap.size w w'
structure FrK (Tb : World → (Nat → Prop) → Nat → Rg → Prop) : Prop where
  keep : ∀ (w w' : World) (S : Nat → Prop) (t : Nat) (rg : Rg), Tb w S t rg → w.heap.size ≤ w'.heap.size → (∀ k, S k → w'.heap[k]? = w.heap[k]?) → Tb w' S t rg
  lt : ∀ (w : World) (S : Nat → Prop) (t : Nat) (rg : Rg), Tb w S t rg → ∀ k, S k → k < w.heap.size
  new : ∀ (w : World), Calls Try.prog 6 #[] w fun e w' => ∃ t S, e = .returned (.pointer (some ⟨t, 0, none⟩)) ∧ Tb w' S t ⟨0, []⟩ ∧ (∀ k, S k → w.heap.size ≤ k) ∧ Below w.heap.size w w'
  add : ∀ (w : World) (S : Nat → Prop) (t : Nat) (rg : Rg) (q : Ke), Tb w S t rg → Inv rg → KeAt w w.heap.size q → q.n ≤ 200 → Calls Try.prog 12 #[.pointer (some ⟨t, 0, none⟩), .agg q.V] w (TurnR Tb w S t (.tuple #[.int .i64 (addN rg q.val), .int .i64 (addErr rg q.val)]) (addR rg q.val))
  drop : ∀ (w : World) (S : Nat → Prop) (t : Nat) (rg : Rg) (n : Int), Tb w S t rg → Inv rg → Calls Try.prog 10 #[.pointer (some ⟨t, 0, none⟩), .int .i64 n] w (TurnR Tb w S t (.int .i64 (dropErr rg n)) (dropR rg n))
  get : ∀ (w : World) (S : Nat → Prop) (t : Nat) (rg : Rg) (n : Int), Tb w S t rg → Inv rg → Calls Try.prog 19 #[.pointer (some ⟨t, 0, none⟩), .int .i64 n] w (FindR w (getP rg n))
  sends : ∀ (w : World) (S : Nat → Prop) (t : Nat) (rg : Rg) (p : Pr) (i : Int), Tb w S t rg → Inv rg → p.Ok → Byte i → Calls Try.prog 15 #[.pointer (some ⟨t, 0, none⟩), .agg (prV p), .int .u8 i] w (FindR w (sendP rg p i))
  gets : ∀ (w : World) (S : Nat → Prop) (t : Nat) (rg : Rg) (p : Pr) (i : Int), Tb w S t rg → Inv rg → p.Ok → Byte i → Calls Try.prog 17 #[.pointer (some ⟨t, 0, none⟩), .agg (prV p), .int .u8 i] w (FindR w (getsP rg p i))
  all : ∀ (w : World) (S : Nat → Prop) (t : Nat) (rg : Rg), Tb w S t rg → Inv rg → Calls Try.prog 23 #[.pointer (some ⟨t, 0, none⟩)] w (TellR w rg.l)
  for_ : ∀ (w : World) (S : Nat → Prop) (t : Nat) (rg : Rg) (p : Pr), Tb w S t rg → Inv rg → p.Ok → Calls Try.prog 24 #[.pointer (some ⟨t, 0, none⟩), .agg (prV p)] w (TellR w (forL rg p))
/-- the laws' sign that the program is there -/
def Alive : Prop := ∀ w : World, Calls Try.prog 8 #[] w (Ret w (.bool true))
end Go.Proofs.Ytflfkhcbkhdahaa.mkC

/-
  The program's key tuples: whether one may be, and whether it governs a pair.
-/
namespace Go.Proofs.Ytflfkhcbkhdahaa.mkC
open Go.ChangeShapes Go.WideShapes Go.ChangeAt Go.RowKit
open Go.Proofs.Ytflfkhcbkhdahaa.memC Go.Proofs.Ytflfkhcbkhdahaa.genC Go.Proofs.Ytflfkhcbkhdahaa.butC Go.Proofs.Ytflfkhcbkhdahaa.freeC Go.Proofs.Ytflfkhcbkhdahaa.adC Go.Proofs.Ytflfkhcbkhdahaa.rtC
set_option linter.unusedVariables false
theorem takes_any (x y : Int) (w : World) : Calls Try.prog 56 #[.int .u16 x, .int .u16 y] w fun e w' => e = .returned (.bool (portB x y)) ∧ w' = w := by
  obtain ⟨V, hV⟩ : ∃ V, V = portB x y := ⟨_, rfl⟩
  rw [← hV]
  unfold portB at hV
  have HV := Lib.hid hV
  clear hV
  by_cases h1 : x = 0
  · subst h1
    have hv := Lib.hid (show V = true by rw [HV.out]; simp)
    go_enter Try.func56, Try.ntmps56
    go_wp2_with go_skip
    go_ret
    exact ⟨ret_bool hv.out.symm, rfl⟩
  · have q1 : (x == 0) = false := beq_eq_false_iff_ne.2 h1
    by_cases h2 : x = y
    · subst h2
      have hv := Lib.hid (show V = true by rw [HV.out]; simp)
      clear h1
      go_enter Try.func56, Try.ntmps56
      go_wp2_with go_skip
      go_ret
      exact ⟨ret_bool hv.out.symm, rfl⟩
    · have q2 : (x == y) = false := beq_eq_false_iff_ne.2 h2
      have hv := Lib.hid (show V = false by rw [HV.out]; simp [h1, h2])
      clear h1 h2
      go_enter Try.func56, Try.ntmps56
      go_wp2_with go_skip
      go_ret
      exact ⟨ret_bool hv.out.symm, rfl⟩
set_option maxRecDepth 100000 in
set_option maxHeartbeats 4000000 in
theorem cgov_any (k : Kt) (p : Pr) (A : Option Addr) (n c : Nat) (w : World) (hk : k.Ok) (hp : p.Ok) : Calls Try.prog 39 #[.agg (ktV k A n c), .agg (prV p)] w (Ret w (.bool (govB k p))) := by
  have e1 : (w.alloc (.cells (ktV k A n c) 49)).heap.size = w.heap.size + 1 := alloc_size _ _
  obtain ⟨W, hW⟩ : ∃ W, W = (w.alloc (.cells (ktV k A n c) 49)).alloc (.cells (prV p) 30) := ⟨_, rfl⟩
  have R0 := Lib.hid (show W.heap[w.heap.size]? = some (.cells (ktV k A n c) 49 (0, 0)) by rw [hW, Below.block (alloc_below _ _) _ (by rw [e1]; omega)]; exact heap_alloc_new w _)
  have R1 := Lib.hid (show W.heap[w.heap.size + 1]? = some (.cells (prV p) 30 (0, 0)) by rw [hW, ← e1]; exact heap_alloc_new _ _)
  have HB := Lib.hid (show Below w.heap.size w W by rw [hW]; exact ((Below.refl _ _).alloc (Nat.le_refl _) _).alloc (by simp) _)
  have SA := Lib.hid (show ∀ j v, (adrK k.s k.a)[j]? = some v → W.cell? ⟨w.heap.size, 1 + j, none⟩ = some v from fun j v hv => kt_cell R0.out (kt_src hv))
  have SB := Lib.hid (show ∀ j v, (adrK p.rs p.ra)[j]? = some v → W.cell? ⟨w.heap.size + 1, 18 + j, none⟩ = some v from fun j v hv => pr_cell R1.out (pr_rem hp hv))
  have c18 := kt_cell R0.out (kt_len hk)
  have IA := Lib.hid (adrKi k.s hk.la)
  have IB := Lib.hid (adrKi p.rs hp.lr)
  have LI := Lib.hid (fun w' => (show Calls Try.prog 55 #[.agg (adrK p.rs p.ra).toArray, .agg (adrK k.s k.a).toArray, .int .i64 k.len] w' (Ret w' (.bool (liesL p.rs p.ra k.s k.a k.len))) from adC.lies_any p.rs k.s p.ra k.a k.len w' hp.lr hk.la hp.yr hk.ya))
  have P1 := Lib.hid (fun w' => takes_any k.lp p.lport w')
  have P2 := Lib.hid (fun w' => takes_any k.rp p.rport w')
  have KA := Lib.hid (fun (w' : World) (h : Below W.heap.size W w') => (show w'.heap[w.heap.size]? = some (.cells (ktV k A n c) 49 (0, 0)) from (h.block _ (lt_of_row R0.out)).trans R0.out))
  have KB := Lib.hid (fun (w' : World) (h : Below W.heap.size W w') => (show w'.heap[w.heap.size + 1]? = some (.cells (prV p) 30 (0, 0)) from (h.block _ (lt_of_row R1.out)).trans R1.out))
  have C19 := Lib.hid (fun w' h => kt_cell (KA.out w' h) (kt_lp hk))
  have C20 := Lib.hid (fun w' h => kt_cell (KA.out w' h) (kt_rp hk))
  have D17 := Lib.hid (fun w' h => pr_cell (KB.out w' h) (pr_lport hp))
  have D35 := Lib.hid (fun w' h => pr_cell (KB.out w' h) (pr_rport hp))
  obtain ⟨V, hV⟩ : ∃ V, V = govB k p := ⟨_, rfl⟩
  rw [← hV]
  unfold govB at hV
  generalize liesL p.rs p.ra k.s k.a k.len = q1 at *
  generalize portB k.lp p.lport = q2 at *
  generalize portB k.rp p.rport = q3 at *
  generalize ktV k A n c = CP at *
  generalize prV p = CQ at *
  generalize adrK k.s k.a = LA at *
  generalize adrK p.rs p.ra = LB at *
  generalize k.len = kl at *
  generalize k.lp = kp at *
  generalize k.rp = kr at *
  generalize p.lport = pl at *
  generalize p.rport = pr at *
  have HV := Lib.hid hV
  clear hV hk hp e1 KA KB
  go_enter Try.func39, Try.ntmps39
  go_upto_region 1 with fail
  rw [← hW]
  clear hW
  cases q1
  · have hv := Lib.hid (show V = false by rw [HV.out]; rfl)
    go_wp2_with (first
      | go_skip
      | (with_reducible refine atC.at_load 25 6 ?_; refine pkC.wpList_load_partG (by kernel_rfl) 25 (.tmp 6) rfl (w.heap.size + 1) 18 (by kernel_rfl) LB _ SB.out Try.underlying25 rfl IB.out ?_)
      | (with_reducible refine atC.at_load 25 8 ?_; refine pkC.wpList_load_partG (by kernel_rfl) 25 (.tmp 8) rfl w.heap.size 1 (by kernel_rfl) LA _ SA.out Try.underlying25 rfl IA.out ?_)
      | (go_at_call 55; (with_reducible refine (LI.out _).mono ?_); rintro e w2 ⟨rfl, BB⟩
         have HW2 := Lib.hid BB
         have c19 := C19.out w2 BB
         have c20 := C20.out w2 BB
         have d17 := D17.out w2 BB
         have d35 := D35.out w2 BB
         clear BB)
      | (go_at_call 56; (with_reducible refine (P1.out _).mono ?_); rintro e w3 ⟨rfl, hw⟩; obtain rfl := hw.symm)
      | (go_at_call 56; (with_reducible refine (P2.out _).mono ?_); rintro e w3 ⟨rfl, hw⟩; obtain rfl := hw.symm))
    go_ret
    exact ⟨ret_bool (by first | exact hv.out | exact hv.out.symm), HB.out.trans (HW2.out.mono HB.out.size)⟩
  · cases q2
    · have hv := Lib.hid (show V = false by rw [HV.out]; rfl)
      go_wp2_with (first
        | go_skip
        | (with_reducible refine atC.at_load 25 6 ?_; refine pkC.wpList_load_partG (by kernel_rfl) 25 (.tmp 6) rfl (w.heap.size + 1) 18 (by kernel_rfl) LB _ SB.out Try.underlying25 rfl IB.out ?_)
        | (with_reducible refine atC.at_load 25 8 ?_; refine pkC.wpList_load_partG (by kernel_rfl) 25 (.tmp 8) rfl w.heap.size 1 (by kernel_rfl) LA _ SA.out Try.underlying25 rfl IA.out ?_)
        | (go_at_call 55; (with_reducible refine (LI.out _).mono ?_); rintro e w2 ⟨rfl, BB⟩
           have HW2 := Lib.hid BB
           have c19 := C19.out w2 BB
           have c20 := C20.out w2 BB
           have d17 := D17.out w2 BB
           have d35 := D35.out w2 BB
           clear BB)
        | (go_at_call 56; (with_reducible refine (P1.out _).mono ?_); rintro e w3 ⟨rfl, hw⟩; obtain rfl := hw.symm)
        | (go_at_call 56; (with_reducible refine (P2.out _).mono ?_); rintro e w3 ⟨rfl, hw⟩; obtain rfl := hw.symm))
      go_ret
      exact ⟨ret_bool (by first | exact hv.out | exact hv.out.symm), HB.out.trans (HW2.out.mono HB.out.size)⟩
    · have hv := Lib.hid (show V = q3 by rw [HV.out]; rfl)
      go_wp2_with (first
        | go_skip
        | (with_reducible refine atC.at_load 25 6 ?_; refine pkC.wpList_load_partG (by kernel_rfl) 25 (.tmp 6) rfl (w.heap.size + 1) 18 (by kernel_rfl) LB _ SB.out Try.underlying25 rfl IB.out ?_)
        | (with_reducible refine atC.at_load 25 8 ?_; refine pkC.wpList_load_partG (by kernel_rfl) 25 (.tmp 8) rfl w.heap.size 1 (by kernel_rfl) LA _ SA.out Try.underlying25 rfl IA.out ?_)
        | (go_at_call 55; (with_reducible refine (LI.out _).mono ?_); rintro e w2 ⟨rfl, BB⟩
           have HW2 := Lib.hid BB
           have c19 := C19.out w2 BB
           have c20 := C20.out w2 BB
           have d17 := D17.out w2 BB
           have d35 := D35.out w2 BB
           clear BB)
        | (go_at_call 56; (with_reducible refine (P1.out _).mono ?_); rintro e w3 ⟨rfl, hw⟩; obtain rfl := hw.symm)
        | (go_at_call 56; (with_reducible refine (P2.out _).mono ?_); rintro e w3 ⟨rfl, hw⟩; obtain rfl := hw.symm))
      go_ret
      exact ⟨ret_bool (by first | exact hv.out | exact hv.out.symm), HB.out.trans (HW2.out.mono HB.out.size)⟩
theorem csz_any (a : Int) (w : World) : Calls Try.prog 48 #[.int .i64 a] w fun e w' => e = .returned (.int .i64 (algN a)) ∧ w' = w := by
  by_cases h1 : a = 1
  · subst h1
    go_enter Try.func48, Try.ntmps48
    go_wp2
    go_ret
    exact ⟨rfl, rfl⟩
  · by_cases h2 : a = 2
    · subst h2
      go_enter Try.func48, Try.ntmps48
      go_wp2
      go_ret
      exact ⟨rfl, rfl⟩
    · go_enter Try.func48, Try.ntmps48
      go_wp2
      go_ret
      exact ⟨by simp [algN, h1, h2], rfl⟩
set_option maxRecDepth 100000 in
set_option maxHeartbeats 4000000 in
theorem cmay_any (k : Kt) (A : Option Addr) (n c : Nat) (w : World) (h : k.Ok) : Calls Try.prog 30 #[.agg (ktV k A n c)] w (Ret w (.bool (mayB k n))) := by
  have hzv := zeroAdr
  obtain ⟨W, hW⟩ : ∃ W, W = w.alloc (.cells (ktV k A n c) 49) := ⟨_, rfl⟩
  obtain ⟨bx, hbx⟩ : ∃ b, b = w.heap.size := ⟨_, rfl⟩
  have HB := Lib.hid (show Below w.heap.size w W by rw [hW]; exact alloc_below _ _)
  have R := Lib.hid (show W.heap[bx]? = some (.cells (ktV k A n c) 49 (0, 0)) by rw [hW, hbx]; exact heap_alloc_new _ _)
  have c18 := kt_cell R.out (kt_len h)
  have KR := Lib.hid (fun (w' : World) (hb : Below W.heap.size W w') => (show w'.heap[bx]? = some (.cells (ktV k A n c) 49 (0, 0)) from (hb.block _ (lt_of_row R.out)).trans R.out))
  have CG := Lib.hid (fun (w' : World) (hb : Below W.heap.size W w') => (show w'.cell? ⟨bx, 23, none⟩ = some (.int .i64 k.alg) from kt_cell (KR.out w' hb) (kt_alg h)))
  have CM' := Lib.hid (fun (w' : World) (hb : Below W.heap.size W w') => (show w'.cell? ⟨bx, 24, none⟩ = some (.slice A n c) from kt_cell (KR.out w' hb) (kt_mst h)))
  have CA := Lib.hid (fun (w' : World) (hb : Below W.heap.size W w') => (show ∀ q v, (adrK k.s k.a)[q]? = some v → w'.cell? ⟨bx, 1 + q, none⟩ = some v from fun q v hv => kt_cell (KR.out w' hb) (kt_src hv)))
  have IA := Lib.hid (adrKi k.s h.la)
  have SZ := Lib.hid (fun w' => csz_any k.alg w')
  have MK0 := Lib.hid (fun w' => (show Calls Try.prog 47 #[.agg (adrK k.s k.a).toArray, .int .i64 k.len] w' (ORet 1 w' (maskO k.s k.a k.len)) from adC.mask_any k.s k.a k.len w' h.la h.ya))
  obtain ⟨V, hV⟩ : ∃ V, V = mayB k n := ⟨_, rfl⟩
  rw [← hV]
  unfold mayB at hV
  obtain ⟨CM, em, MK, q, EQ, IM, SM, OM, VM⟩ : ∃ (CM : Array Value) (em : Int) (MK : Hid (∀ w', Calls Try.prog 47 #[.agg (adrK k.s k.a).toArray, .int .i64 k.len] w' fun e w'' => e = .returned (.tuple #[.agg CM, .int .i64 em]) ∧ Below w'.heap.size w' w'')) (q : Bool)
      (EQ : Hid (∀ w', (Op.equalIn 10000 25 (.agg CM) (.agg (adrK k.s k.a).toArray)).run Try.prog w' = .ok q w')) (IM : Hid ((Try.prog.info? 25).map (·.size) = some CM.size)) (SM : Hid (zAdr.size = CM.size)) (OM : Hid (CM.all (·.oneCell') = true)),
      Hid ((em = 1 ∧ V = false) ∨ (em = 0 ∧ V = (q && (decide (0 < algN k.alg) && (decide (1 ≤ n) && decide (n ≤ 80)))))) := by
    rcases maskO_two k.s k.a k.len with e | e
    · rw [e] at MK0 hV
      refine ⟨zAdr, 1, Lib.hid fun w' => (MK0.out w').mono fun e w'' h => h, decide (false = k.s ∧ zs 16 = k.a), Lib.hid fun w' => eqa false k.s (zs 16) k.a (zs_len 16) h.la w', Lib.hid (show (Try.prog.info? 25).map (·.size) = some (adrV false (zs 16)).size by rw [adrV_size (zs_len 16)]; exact addr_info), Lib.hid rfl, Lib.hid (adrV_one false (zs 16)), Lib.hid (.inl ⟨rfl, ?_⟩)⟩
      rw [hV]; simp
    · rw [e] at MK0 hV
      refine ⟨adrV k.s (mskL k.a k.len), 0, Lib.hid fun w' => (MK0.out w').mono fun e w'' h => h, decide (k.s = k.s ∧ mskL k.a k.len = k.a), Lib.hid fun w' => eqa k.s k.s _ k.a (mskL_len _ h.la) h.la w', Lib.hid (show (Try.prog.info? 25).map (·.size) = some (adrV k.s (mskL k.a k.len)).size by rw [adrV_size (mskL_len _ h.la)]; exact addr_info), Lib.hid (show zAdr.size = (adrV k.s (mskL k.a k.len)).size by rw [adrV_size (mskL_len _ h.la)]; rfl), Lib.hid (adrV_one _ _), Lib.hid (.inr ⟨rfl, ?_⟩)⟩
      rw [hV]
      congr 1
      exact decide_eq_decide.2 ⟨fun h => by injection h with h; injection h with h1 h2; exact ⟨rfl, h2⟩, fun h => by rw [h.2]⟩
  clear MK0 hV
  generalize adrK k.s k.a = KA at *
  generalize algN k.alg = sz at *
  generalize ktV k A n c = CY at *
  generalize zAdr = ZA at *
  generalize k.len = ln at *
  generalize k.alg = alg at *
  clear h
  rcases VM.out with ⟨e0, hv0⟩ | ⟨e0, hv0⟩
  · subst e0
    have hv := Lib.hid hv0
    clear hv0 VM
    go_enter Try.func30, Try.ntmps30
    go_upto_region 1 with fail
    rw [← hW, ← hbx]
    clear hW hbx
    have CA1 := Lib.hid (CA.out W (Below.refl _ _))
    go_upto_region 2 with (first
      | (with_reducible refine atC.at_load 25 6 ?_; refine pkC.wpList_load_partG (by kernel_rfl) 25 (.tmp 6) rfl bx 1 (by kernel_rfl) KA _ CA1.out Try.underlying25 rfl IA.out ?_)
      | (go_at_call 47; (with_reducible refine (MK.out _).mono ?_); rintro e w2 ⟨rfl, BB⟩; have HW2 := Lib.hid BB; clear BB)
      | (refine wpList_store_row rfl 25 (.tmp 3) (.tmp 11) rfl w2.heap.size CM rfl rfl _ _ (heap_alloc_new _ _) IM.out SM.out OM.out ?_; rw [World.setRow_alloc_new]))
    obtain ⟨W3, hW3⟩ : ∃ W3, W3 = w2.alloc (.cells CM 25) := ⟨_, rfl⟩
    obtain ⟨g3, hg3⟩ : ∃ g, g = w2.heap.size := ⟨_, rfl⟩
    have R3 := Lib.hid (show W3.heap[g3]? = some (.cells CM 25 (0, 0)) by rw [hW3, hg3]; exact heap_alloc_new _ _)
    have HW3 := Lib.hid (show Below W.heap.size W W3 by rw [hW3]; exact HW2.out.trans ((alloc_below _ _).mono HW2.out.size))
    have CA3 := Lib.hid (CA.out W3 HW3.out)
    have cg := CG.out W3 HW3.out
    have cm := CM'.out W3 HW3.out
    rw [← hW3, ← hg3]
    clear hW3 hg3 c18 hzv
    go_wp2_with (first
      | go_skip
      | (with_reducible refine atC.at_load 25 3 ?_; refine wpList_load_rowG (by kernel_rfl) 25 (.tmp 3) rfl g3 (by kernel_rfl) _ _ _ _ R3.out Try.underlying25 rfl IM.out ?_)
      | (with_reducible refine atC.at_load 25 17 ?_; refine pkC.wpList_load_partG (by kernel_rfl) 25 (.tmp 17) rfl bx 1 (by kernel_rfl) KA _ CA3.out Try.underlying25 rfl IA.out ?_)
      | (with_reducible refine atC.at_bin .eql 25 ?_; refine wpList_runG (by kernel_rfl) _ (adC.eq_run (T := 25) (s := 16) (x := 18) rfl (by kernel_rfl) (by kernel_rfl) (EQ.out _) guard_addr) ?_)
      | (go_at_call 48; (with_reducible refine (SZ.out _).mono ?_); rintro e w4 ⟨rfl, hw⟩; obtain rfl := hw.symm))
    go_ret
    exact ⟨ret_bool (by first | exact hv.out | exact hv.out.symm), HB.out.trans (HW3.out.mono HB.out.size)⟩
  · subst e0
    have HV0 := Lib.hid hv0
    clear hv0 VM
    cases q
    · have hv := Lib.hid (show V = false by rw [HV0.out]; rfl)
      clear HV0
      go_enter Try.func30, Try.ntmps30
      go_upto_region 1 with fail
      rw [← hW, ← hbx]
      clear hW hbx
      have CA1 := Lib.hid (CA.out W (Below.refl _ _))
      go_upto_region 2 with (first
        | (with_reducible refine atC.at_load 25 6 ?_; refine pkC.wpList_load_partG (by kernel_rfl) 25 (.tmp 6) rfl bx 1 (by kernel_rfl) KA _ CA1.out Try.underlying25 rfl IA.out ?_)
        | (go_at_call 47; (with_reducible refine (MK.out _).mono ?_); rintro e w2 ⟨rfl, BB⟩; have HW2 := Lib.hid BB; clear BB)
        | (refine wpList_store_row rfl 25 (.tmp 3) (.tmp 11) rfl w2.heap.size CM rfl rfl _ _ (heap_alloc_new _ _) IM.out SM.out OM.out ?_; rw [World.setRow_alloc_new]))
      obtain ⟨W3, hW3⟩ : ∃ W3, W3 = w2.alloc (.cells CM 25) := ⟨_, rfl⟩
      obtain ⟨g3, hg3⟩ : ∃ g, g = w2.heap.size := ⟨_, rfl⟩
      have R3 := Lib.hid (show W3.heap[g3]? = some (.cells CM 25 (0, 0)) by rw [hW3, hg3]; exact heap_alloc_new _ _)
      have HW3 := Lib.hid (show Below W.heap.size W W3 by rw [hW3]; exact HW2.out.trans ((alloc_below _ _).mono HW2.out.size))
      have CA3 := Lib.hid (CA.out W3 HW3.out)
      have cg := CG.out W3 HW3.out
      have cm := CM'.out W3 HW3.out
      rw [← hW3, ← hg3]
      clear hW3 hg3 c18 hzv
      go_wp2_with (first
        | go_skip
        | (with_reducible refine atC.at_load 25 3 ?_; refine wpList_load_rowG (by kernel_rfl) 25 (.tmp 3) rfl g3 (by kernel_rfl) _ _ _ _ R3.out Try.underlying25 rfl IM.out ?_)
        | (with_reducible refine atC.at_load 25 17 ?_; refine pkC.wpList_load_partG (by kernel_rfl) 25 (.tmp 17) rfl bx 1 (by kernel_rfl) KA _ CA3.out Try.underlying25 rfl IA.out ?_)
        | (with_reducible refine atC.at_bin .eql 25 ?_; refine wpList_runG (by kernel_rfl) _ (adC.eq_run (T := 25) (s := 16) (x := 18) rfl (by kernel_rfl) (by kernel_rfl) (EQ.out _) guard_addr) ?_)
        | (go_at_call 48; (with_reducible refine (SZ.out _).mono ?_); rintro e w4 ⟨rfl, hw⟩; obtain rfl := hw.symm))
      go_ret
      exact ⟨ret_bool (by first | exact hv.out | exact hv.out.symm), HB.out.trans (HW3.out.mono HB.out.size)⟩
    · by_cases h1 : 0 < sz
      · by_cases h2 : 1 ≤ n
        · by_cases h3 : n ≤ 80
          · have hv := Lib.hid (show V = true by rw [HV0.out]; simp [h1, h2, h3])
            clear HV0
            have q1 : decide (sz > 0) = true := decide_eq_true h1
            have q2 : decide ((n : Int) > 0) = true := decide_eq_true (by omega)
            have q3 : decide ((n : Int) ≤ 80) = true := decide_eq_true (by omega)
            go_enter Try.func30, Try.ntmps30
            go_upto_region 1 with fail
            rw [← hW, ← hbx]
            clear hW hbx
            have CA1 := Lib.hid (CA.out W (Below.refl _ _))
            go_upto_region 2 with (first
              | (with_reducible refine atC.at_load 25 6 ?_; refine pkC.wpList_load_partG (by kernel_rfl) 25 (.tmp 6) rfl bx 1 (by kernel_rfl) KA _ CA1.out Try.underlying25 rfl IA.out ?_)
              | (go_at_call 47; (with_reducible refine (MK.out _).mono ?_); rintro e w2 ⟨rfl, BB⟩; have HW2 := Lib.hid BB; clear BB)
              | (refine wpList_store_row rfl 25 (.tmp 3) (.tmp 11) rfl w2.heap.size CM rfl rfl _ _ (heap_alloc_new _ _) IM.out SM.out OM.out ?_; rw [World.setRow_alloc_new]))
            obtain ⟨W3, hW3⟩ : ∃ W3, W3 = w2.alloc (.cells CM 25) := ⟨_, rfl⟩
            obtain ⟨g3, hg3⟩ : ∃ g, g = w2.heap.size := ⟨_, rfl⟩
            have R3 := Lib.hid (show W3.heap[g3]? = some (.cells CM 25 (0, 0)) by rw [hW3, hg3]; exact heap_alloc_new _ _)
            have HW3 := Lib.hid (show Below W.heap.size W W3 by rw [hW3]; exact HW2.out.trans ((alloc_below _ _).mono HW2.out.size))
            have CA3 := Lib.hid (CA.out W3 HW3.out)
            have cg := CG.out W3 HW3.out
            have cm := CM'.out W3 HW3.out
            rw [← hW3, ← hg3]
            clear hW3 hg3 c18 hzv
            go_wp2_with (first
              | go_skip
              | (with_reducible refine atC.at_load 25 3 ?_; refine wpList_load_rowG (by kernel_rfl) 25 (.tmp 3) rfl g3 (by kernel_rfl) _ _ _ _ R3.out Try.underlying25 rfl IM.out ?_)
              | (with_reducible refine atC.at_load 25 17 ?_; refine pkC.wpList_load_partG (by kernel_rfl) 25 (.tmp 17) rfl bx 1 (by kernel_rfl) KA _ CA3.out Try.underlying25 rfl IA.out ?_)
              | (with_reducible refine atC.at_bin .eql 25 ?_; refine wpList_runG (by kernel_rfl) _ (adC.eq_run (T := 25) (s := 16) (x := 18) rfl (by kernel_rfl) (by kernel_rfl) (EQ.out _) guard_addr) ?_)
              | (go_at_call 48; (with_reducible refine (SZ.out _).mono ?_); rintro e w4 ⟨rfl, hw⟩; obtain rfl := hw.symm))
            go_ret
            exact ⟨ret_bool (by first | exact hv.out | exact hv.out.symm), HB.out.trans (HW3.out.mono HB.out.size)⟩
          · have hv := Lib.hid (show V = false by rw [HV0.out]; simp [h3])
            clear HV0
            have q1 : decide (sz > 0) = true := decide_eq_true h1
            have q2 : decide ((n : Int) > 0) = true := decide_eq_true (by omega)
            have q3 : decide ((n : Int) ≤ 80) = false := decide_eq_false (by omega)
            go_enter Try.func30, Try.ntmps30
            go_upto_region 1 with fail
            rw [← hW, ← hbx]
            clear hW hbx
            have CA1 := Lib.hid (CA.out W (Below.refl _ _))
            go_upto_region 2 with (first
              | (with_reducible refine atC.at_load 25 6 ?_; refine pkC.wpList_load_partG (by kernel_rfl) 25 (.tmp 6) rfl bx 1 (by kernel_rfl) KA _ CA1.out Try.underlying25 rfl IA.out ?_)
              | (go_at_call 47; (with_reducible refine (MK.out _).mono ?_); rintro e w2 ⟨rfl, BB⟩; have HW2 := Lib.hid BB; clear BB)
              | (refine wpList_store_row rfl 25 (.tmp 3) (.tmp 11) rfl w2.heap.size CM rfl rfl _ _ (heap_alloc_new _ _) IM.out SM.out OM.out ?_; rw [World.setRow_alloc_new]))
            obtain ⟨W3, hW3⟩ : ∃ W3, W3 = w2.alloc (.cells CM 25) := ⟨_, rfl⟩
            obtain ⟨g3, hg3⟩ : ∃ g, g = w2.heap.size := ⟨_, rfl⟩
            have R3 := Lib.hid (show W3.heap[g3]? = some (.cells CM 25 (0, 0)) by rw [hW3, hg3]; exact heap_alloc_new _ _)
            have HW3 := Lib.hid (show Below W.heap.size W W3 by rw [hW3]; exact HW2.out.trans ((alloc_below _ _).mono HW2.out.size))
            have CA3 := Lib.hid (CA.out W3 HW3.out)
            have cg := CG.out W3 HW3.out
            have cm := CM'.out W3 HW3.out
            rw [← hW3, ← hg3]
            clear hW3 hg3 c18 hzv
            go_wp2_with (first
              | go_skip
              | (with_reducible refine atC.at_load 25 3 ?_; refine wpList_load_rowG (by kernel_rfl) 25 (.tmp 3) rfl g3 (by kernel_rfl) _ _ _ _ R3.out Try.underlying25 rfl IM.out ?_)
              | (with_reducible refine atC.at_load 25 17 ?_; refine pkC.wpList_load_partG (by kernel_rfl) 25 (.tmp 17) rfl bx 1 (by kernel_rfl) KA _ CA3.out Try.underlying25 rfl IA.out ?_)
              | (with_reducible refine atC.at_bin .eql 25 ?_; refine wpList_runG (by kernel_rfl) _ (adC.eq_run (T := 25) (s := 16) (x := 18) rfl (by kernel_rfl) (by kernel_rfl) (EQ.out _) guard_addr) ?_)
              | (go_at_call 48; (with_reducible refine (SZ.out _).mono ?_); rintro e w4 ⟨rfl, hw⟩; obtain rfl := hw.symm))
            go_ret
            exact ⟨ret_bool (by first | exact hv.out | exact hv.out.symm), HB.out.trans (HW3.out.mono HB.out.size)⟩
        · have hv := Lib.hid (show V = false by rw [HV0.out]; simp [h2])
          clear HV0
          have q1 : decide (sz > 0) = true := decide_eq_true h1
          have q2 : decide ((n : Int) > 0) = false := decide_eq_false (by omega)
          go_enter Try.func30, Try.ntmps30
          go_upto_region 1 with fail
          rw [← hW, ← hbx]
          clear hW hbx
          have CA1 := Lib.hid (CA.out W (Below.refl _ _))
          go_upto_region 2 with (first
            | (with_reducible refine atC.at_load 25 6 ?_; refine pkC.wpList_load_partG (by kernel_rfl) 25 (.tmp 6) rfl bx 1 (by kernel_rfl) KA _ CA1.out Try.underlying25 rfl IA.out ?_)
            | (go_at_call 47; (with_reducible refine (MK.out _).mono ?_); rintro e w2 ⟨rfl, BB⟩; have HW2 := Lib.hid BB; clear BB)
            | (refine wpList_store_row rfl 25 (.tmp 3) (.tmp 11) rfl w2.heap.size CM rfl rfl _ _ (heap_alloc_new _ _) IM.out SM.out OM.out ?_; rw [World.setRow_alloc_new]))
          obtain ⟨W3, hW3⟩ : ∃ W3, W3 = w2.alloc (.cells CM 25) := ⟨_, rfl⟩
          obtain ⟨g3, hg3⟩ : ∃ g, g = w2.heap.size := ⟨_, rfl⟩
          have R3 := Lib.hid (show W3.heap[g3]? = some (.cells CM 25 (0, 0)) by rw [hW3, hg3]; exact heap_alloc_new _ _)
          have HW3 := Lib.hid (show Below W.heap.size W W3 by rw [hW3]; exact HW2.out.trans ((alloc_below _ _).mono HW2.out.size))
          have CA3 := Lib.hid (CA.out W3 HW3.out)
          have cg := CG.out W3 HW3.out
          have cm := CM'.out W3 HW3.out
          rw [← hW3, ← hg3]
          clear hW3 hg3 c18 hzv
          go_wp2_with (first
            | go_skip
            | (with_reducible refine atC.at_load 25 3 ?_; refine wpList_load_rowG (by kernel_rfl) 25 (.tmp 3) rfl g3 (by kernel_rfl) _ _ _ _ R3.out Try.underlying25 rfl IM.out ?_)
            | (with_reducible refine atC.at_load 25 17 ?_; refine pkC.wpList_load_partG (by kernel_rfl) 25 (.tmp 17) rfl bx 1 (by kernel_rfl) KA _ CA3.out Try.underlying25 rfl IA.out ?_)
            | (with_reducible refine atC.at_bin .eql 25 ?_; refine wpList_runG (by kernel_rfl) _ (adC.eq_run (T := 25) (s := 16) (x := 18) rfl (by kernel_rfl) (by kernel_rfl) (EQ.out _) guard_addr) ?_)
            | (go_at_call 48; (with_reducible refine (SZ.out _).mono ?_); rintro e w4 ⟨rfl, hw⟩; obtain rfl := hw.symm))
          go_ret
          exact ⟨ret_bool (by first | exact hv.out | exact hv.out.symm), HB.out.trans (HW3.out.mono HB.out.size)⟩
      · have hv := Lib.hid (show V = false by rw [HV0.out]; simp [h1])
        clear HV0
        have q1 : decide (sz > 0) = false := decide_eq_false h1
        go_enter Try.func30, Try.ntmps30
        go_upto_region 1 with fail
        rw [← hW, ← hbx]
        clear hW hbx
        have CA1 := Lib.hid (CA.out W (Below.refl _ _))
        go_upto_region 2 with (first
          | (with_reducible refine atC.at_load 25 6 ?_; refine pkC.wpList_load_partG (by kernel_rfl) 25 (.tmp 6) rfl bx 1 (by kernel_rfl) KA _ CA1.out Try.underlying25 rfl IA.out ?_)
          | (go_at_call 47; (with_reducible refine (MK.out _).mono ?_); rintro e w2 ⟨rfl, BB⟩; have HW2 := Lib.hid BB; clear BB)
          | (refine wpList_store_row rfl 25 (.tmp 3) (.tmp 11) rfl w2.heap.size CM rfl rfl _ _ (heap_alloc_new _ _) IM.out SM.out OM.out ?_; rw [World.setRow_alloc_new]))
        obtain ⟨W3, hW3⟩ : ∃ W3, W3 = w2.alloc (.cells CM 25) := ⟨_, rfl⟩
        obtain ⟨g3, hg3⟩ : ∃ g, g = w2.heap.size := ⟨_, rfl⟩
        have R3 := Lib.hid (show W3.heap[g3]? = some (.cells CM 25 (0, 0)) by rw [hW3, hg3]; exact heap_alloc_new _ _)
        have HW3 := Lib.hid (show Below W.heap.size W W3 by rw [hW3]; exact HW2.out.trans ((alloc_below _ _).mono HW2.out.size))
        have CA3 := Lib.hid (CA.out W3 HW3.out)
        have cg := CG.out W3 HW3.out
        have cm := CM'.out W3 HW3.out
        rw [← hW3, ← hg3]
        clear hW3 hg3 c18 hzv
        go_wp2_with (first
          | go_skip
          | (with_reducible refine atC.at_load 25 3 ?_; refine wpList_load_rowG (by kernel_rfl) 25 (.tmp 3) rfl g3 (by kernel_rfl) _ _ _ _ R3.out Try.underlying25 rfl IM.out ?_)
          | (with_reducible refine atC.at_load 25 17 ?_; refine pkC.wpList_load_partG (by kernel_rfl) 25 (.tmp 17) rfl bx 1 (by kernel_rfl) KA _ CA3.out Try.underlying25 rfl IA.out ?_)
          | (with_reducible refine atC.at_bin .eql 25 ?_; refine wpList_runG (by kernel_rfl) _ (adC.eq_run (T := 25) (s := 16) (x := 18) rfl (by kernel_rfl) (by kernel_rfl) (EQ.out _) guard_addr) ?_)
          | (go_at_call 48; (with_reducible refine (SZ.out _).mono ?_); rintro e w4 ⟨rfl, hw⟩; obtain rfl := hw.symm))
        go_ret
        exact ⟨ret_bool (by first | exact hv.out | exact hv.out.symm), HB.out.trans (HW3.out.mono HB.out.size)⟩
end Go.Proofs.Ytflfkhcbkhdahaa.mkC
