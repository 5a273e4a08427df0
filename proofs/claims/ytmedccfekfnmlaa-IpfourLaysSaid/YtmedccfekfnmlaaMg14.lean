/-
  8 texts of a proof, joined.
-/
import Derived.Test.YtmedccfekfnmlaaMg12
import Derived.Test.YtmedccfekfnmlaaMg10
import Derived.Test.YtmedccfekfnmlaaMg13
import Derived.Deep.Matrix
import Derived.Test.YtmedccfekfnmlaaMg1
import Derived.Lib.AppendZeros
import Derived.StillTailTactics
import Derived.Deep.RegionWith
import Derived.Laws.Rows
import Derived.BigRegion
import Derived.Deep.CutRange

/-
  A packet's header, and its bytes: the document's.
-/
namespace Go.Proofs.Ytmedccfekfnmlaa.pkC
open Go.ChangeShapes Go.WideShapes Go.ChangeAt Go.RowKit
open Go.Proofs.Ytmedccfekfnmlaa.memC Go.Proofs.Ytmedccfekfnmlaa.genC Go.Proofs.Ytmedccfekfnmlaa.butC Go.Proofs.Ytmedccfekfnmlaa.freeC Go.Proofs.Ytmedccfekfnmlaa.adC
set_option linter.unusedVariables false
/-- the flags and the place, as 16 bits -/
def flN (p : Pkt) : Int := p.off / 8 + (if p.whole then 16384 else 0) + (if p.more then 8192 else 0)
/-- a header's bytes ahead of the addresses -/
def topL (p : Pkt) (n : Nat) (ck : Int) : List Int := octC.putL [69, 0] 2 [20 + (n : Int), p.id, flN p] ++ [p.hops, p.proto, ck / 256, ck % 256]
def headL (p : Pkt) (n : Nat) (ck : Int) : List Int := topL p n ck ++ p.a.take 4 ++ p.b.take 4
theorem topL_len (p : Pkt) (n : Nat) (ck : Int) : (topL p n ck).length = 12 := by
  unfold topL octC.putL
  rw [List.length_append, List.length_append, octC.flat_len]
  rfl
theorem headL_len {p : Pkt} (h : p.Ok) (n : Nat) (ck : Int) : (headL p n ck).length = 20 := by
  unfold headL
  rw [List.length_append, List.length_append, topL_len, List.length_take, List.length_take, h.la, h.lb]
  rfl
/-- what a packet that may be is bounded by -/
theorem mayB_parts {p : Pkt} {n : Nat} (h : mayB p n = true) : p.s = false ∧ p.t = false ∧ mayL p.s p.a = true ∧ mayL p.t p.b = true ∧ p.id ≤ 65535 ∧ 0 ≤ p.off ∧ p.off % 8 = 0 ∧ (n : Int) ≤ 65515 ∧ p.off ≤ 65515 - (n : Int) ∧ (p.more = true → n % 8 = 0) ∧ (p.whole = true → p.more = false ∧ p.off = 0) := by
  unfold mayB at h
  simp only [Bool.and_eq_true, Bool.or_eq_true, Bool.not_eq_true', decide_eq_true_eq] at h
  obtain ⟨⟨⟨⟨⟨⟨⟨⟨⟨⟨h1, h2⟩, h3⟩, h4⟩, h5⟩, h6⟩, h7⟩, h8⟩, h9⟩, h10⟩, h11⟩ := h
  refine ⟨h1, h2, h3, h4, h5, h6, h7, h8, h9, fun e => ?_, fun e => ?_⟩
  · rcases h10 with h | h
    · rw [e] at h; cases h
    · exact h
  · rcases h11 with h | h
    · rw [e] at h; cases h
    · exact h
theorem four_nums {w : World} {g q : Nat} {C : Array Value} {T : TypeId} {s : Bool} {b : List Int} (hb : b.length = 16) (R : w.heap[g]? = some (.cells C T (0, 0))) (h : ∀ j v, (adrC s b)[j]? = some v → C[q + j]? = some v) :
    Nums .u8 w w.heap.size (some ⟨g, q + 1, none⟩) 4 (b.take 4) :=
  ⟨by rw [List.length_take, hb]; rfl, fun _ => ⟨g, q + 1, rfl, lt_of_row R, fun i hi => by
    rw [cell_of_row w g (q + 1 + i) _ _ (0, 0) R, show q + 1 + i = q + (1 + i) by omega, h (1 + i) (.int .u8 (b.getD i 0)) ?_]
    · rw [List.getD_eq_getElem?_getD, List.getD_eq_getElem?_getD, List.getElem?_take_of_lt hi]
    · unfold adrC
      rw [Nat.add_comm, List.getElem?_cons_succ, List.getElem?_map, List.getElem?_eq_getElem (by omega)]
      simp [List.getD_eq_getElem?_getD, List.getElem?_eq_getElem (show i < b.length by omega)]⟩⟩
/-- the header's bytes as they grow -/
def hdR (B : Nat) (vv : Value) (X0 X1 X2 : List Int) : Nat → (Nat → Value) → World → Prop
  | 0, _, w => Own .u8 5 w B vv X0
  | 1, us, w => Own .u8 5 w B (us 4) X1
  | 2, us, w => Own .u8 5 w B (us 8) X2
  | 3, us, w => Own .u8 5 w B (us 9) X2
  | _, _, _ => True
theorem hdR.keep (B : Nat) (vv : Value) (X0 X1 X2 : List Int) (k : Nat) (us us' : Nat → Value) (w w' : World) (h : ∀ x ∈ [4, 8, 9], us' x = us x) (hB : B ≤ w.heap.size) (hb : Below w.heap.size w w') (hR : hdR B vv X0 X1 X2 k us w) : hdR B vv X0 X1 X2 k us' w' := by
  have h4 := h 4 (by simp); have h8 := h 8 (by simp); have h9 := h 9 (by simp)
  unfold hdR at hR ⊢
  split at hR <;> first | exact hR.below hb | (rw [h4]; exact hR.below hb) | (rw [h8]; exact hR.below hb) | (rw [h9]; exact hR.below hb) | trivial
theorem hdR.m1 {B : Nat} {vv v : Value} {X0 X1 X2 : List Int} {us : Nat → Value} {w : World} (h : Own .u8 5 w B v X1) : hdR B vv X0 X1 X2 1 (upd us 4 v) w := by
  show Own .u8 5 w B (upd us 4 v 4) X1
  rw [upd_same]; exact h
theorem hdR.m2 {B : Nat} {vv v : Value} {X0 X1 X2 : List Int} {us : Nat → Value} {w : World} (h : Own .u8 5 w B v X2) : hdR B vv X0 X1 X2 2 (upd us 8 v) w := by
  show Own .u8 5 w B (upd us 8 v 8) X2
  rw [upd_same]; exact h
theorem hdR.m3 {B : Nat} {vv v : Value} {X0 X1 X2 : List Int} {us : Nat → Value} {w : World} (h : Own .u8 5 w B v X2) : hdR B vv X0 X1 X2 3 (upd us 9 v) w := by
  show Own .u8 5 w B (upd us 9 v 9) X2
  rw [upd_same]; exact h
def hdV (vv : Value) (g0 : Nat) : Nat → Value → World → Prop
  | 0, v, _ => v = vv
  | 1, v, _ => v = .pointer (some ⟨g0, 0, none⟩)
  | 2, v, _ => v = .pointer (some ⟨g0, 1, none⟩)
  | 3, v, _ => v = .slice (some ⟨g0, 1, none⟩) 4 16
  | 5, v, _ => v = .pointer (some ⟨g0, 17, none⟩)
  | 6, v, _ => v = .pointer (some ⟨g0, 18, none⟩)
  | 7, v, _ => v = .slice (some ⟨g0, 18, none⟩) 4 16
  | _, _, _ => True
theorem hdV.keep (vv : Value) (g0 : Nat) (i : Nat) (v : Value) (w w' : World) (h : hdV vv g0 i v w) : hdV vv g0 i v w' := by
  unfold hdV at h ⊢
  split at h <;> exact h
def hdT : List (Option Nat) := [none, none, none, none, some 9, none, none, none, none, none, none, none, none, none, none, none, none, none, none, none, none, none, none, none, none, none, none, none, none, none, none, none, none, none, none, none, none, none, none, none, none, none, none, some 0, some 1, some 2, some 3, some 4, some 5, some 6, some 7, some 8]
/-- the call's own bytes, as a result -/
def OwnB (w : World) (bs : List Int) (e : Ending) (w' : World) : Prop := ∃ v, e = .returned v ∧ Own .u8 5 w' w.heap.size v bs ∧ Below w.heap.size w w'
set_option maxRecDepth 100000 in
set_option maxHeartbeats 4000000 in
theorem head_any (p : Pkt) (A : Option Addr) (n c : Nat) (ck : Int) (w : World) (hp : p.Ok) (hm : mayB p n = true) (k0 : 0 ≤ ck) (k1 : ck ≤ 65535) :
    Calls Try.prog 23 #[.agg (pktV p A n c), .int .u16 ck] w (OwnB w (headL p n ck)) := by
  obtain ⟨i0, hi0, hz0, hz1, hz2⟩ := info_parts byte_inf
  have T1 := Lib.hid hi0; have T2 := Lib.hid hz0; have T3 := Lib.hid hz1; have T4 := Lib.hid hz2
  obtain ⟨_, _, _, _, b1, b2, b3, b4', b5, _, bw⟩ := mayB_parts hm
  have BW := Lib.hid (show p.whole = true → p.more = false from fun h => (bw h).1)
  clear bw
  obtain ⟨W, hW⟩ : ∃ W, W = w.alloc (.cells (pktV p A n c) 28) := ⟨_, rfl⟩
  have R0 := Lib.hid (show W.heap[w.heap.size]? = some (.cells (pktV p A n c) 28 (0, 0)) by rw [hW]; exact heap_alloc_new w _)
  have HB := Lib.hid (show Below w.heap.size w W by rw [hW]; exact alloc_below _ _)
  have c0 := pkC hp A n c
  have KR := Lib.hid (fun (w' : World) (h : Below W.heap.size W w') => (show w'.heap[w.heap.size]? = some (.cells (pktV p A n c) 28 (0, 0)) by rw [h.block _ (lt_of_row R0.out)]; exact R0.out))
  have SA := Lib.hid (fun w' h => four_nums hp.la (KR.out w' h) c0.src)
  have SB := Lib.hid (fun w' h => four_nums hp.lb (KR.out w' h) c0.dst)
  have K34 := Lib.hid (fun w' h => PkC.cell (KR.out w' h) c0.proto)
  have K35 := Lib.hid (fun w' h => PkC.cell (KR.out w' h) c0.hops)
  have K36 := Lib.hid (fun w' h => PkC.cell (KR.out w' h) c0.id)
  have k37 := PkC.cell R0.out c0.whole
  have k38 := PkC.cell R0.out c0.more
  have k39 := PkC.cell R0.out c0.off
  have K40 := Lib.hid (fun w' h => PkC.cell (KR.out w' h) c0.load)
  have hi := hp.id
  have hL := Lib.hid (topL_len p n ck)
  have ha4 : (p.a.take 4).length = 4 := by rw [List.length_take, hp.la]; rfl
  obtain ⟨F, hF⟩ : ∃ F, F = flN p := ⟨_, rfl⟩
  have hx : headL p n ck = (topL p n ck ++ p.a.take 4) ++ p.b.take 4 := rfl
  have hT : Hid (octC.putL [69, 0] 2 [20 + (n : Int), p.id, F] ++ [p.hops, p.proto, ck / 256, ck % 256] = topL p n ck) := Lib.hid (by rw [hF]; rfl)
  have hyh := hp.hops
  have hyp := hp.proto
  rw [hx]
  have hz : p.off.tdiv 8 = p.off / 8 := Int.tdiv_eq_ediv_of_nonneg b2
  have hf0 : 0 ≤ p.off / 8 := by omega
  have hf1 : p.off / 8 ≤ 8189 := by omega
  have hFe := Lib.hid (show F = p.off / 8 + (if p.whole then 16384 else 0) + (if p.more then 8192 else 0) from hF)
  clear hF
  generalize p.off / 8 = f0 at *
  generalize topL p n ck = X0 at *
  have L1 : Hid ((X0 ++ p.a.take 4).length = 16) := Lib.hid (by rw [List.length_append, hL.out, ha4])
  obtain ⟨X1, hX1⟩ : ∃ X, X = X0 ++ p.a.take 4 := ⟨_, rfl⟩
  obtain ⟨X2, hX2⟩ : ∃ X, X = X1 ++ p.b.take 4 := ⟨_, rfl⟩
  rw [← hX1] at L1 ⊢
  rw [← hX2]
  have E1 : Hid (X0 ++ p.a.take 4 = X1) := Lib.hid hX1.symm
  have E2 : Hid (X1 ++ p.b.take 4 = X2) := Lib.hid hX2.symm
  have L0 := hL
  clear hX1 hX2 hx ha4
  generalize p.a.take 4 = a4 at *
  generalize p.b.take 4 = b4 at *
  generalize pktV p A n c = CP at *
  generalize p.proto = proto1 at *
  generalize p.hops = hops1 at *
  generalize p.id = id1 at *
  generalize p.whole = whole1 at *
  generalize p.more = more1 at *
  generalize p.off = off1 at *
  obtain ⟨hi0', hi1'⟩ := hi
  obtain ⟨N, hN⟩ : ∃ N : Int, N = 20 + (n : Int) := ⟨_, rfl⟩
  have P1 := Lib.hid (fun (w' : World) (A1 A2 : Option Addr) (m1 : Nums .u8 w' w'.heap.size A1 2 [69, 0]) (m2 : Nums .u64 w' w'.heap.size A2 3 [N, id1, F]) => octC.putref_any A1 2 2 2 A2 3 3 [69, 0] [N, id1, F] w' (by decide) (by decide) m1 m2 (by decide) (by decide))
  rw [← hN] at hT
  have hNn := hN.symm
  have HN := Lib.hid hN
  have n0 : 0 ≤ N := by omega
  have n1 : N ≤ 65535 := by omega
  have hs8 : ck / 2 ^ 8 = ck / 256 := rfl
  have hd0 : 0 ≤ ck / 256 := by omega
  have hd1 : ck / 256 ≤ 255 := by omega
  have hm0 : 0 ≤ ck % 256 := by omega
  have hm1 : ck % 256 ≤ 255 := by omega
  have hwm : IntKind.u8.wrap ck = ck % 256 := by rfl
  clear hN hp hm c0 KR hL R0 hi0 hz0 hz1 hz2
  have HWW := Lib.hid (Below.refl W.heap.size W)
  go_enter Try.func23, Try.ntmps23
  go_upto_region 1 with fail
  rw [← hW]
  clear hW
  cases whole1 <;> cases more1
  rotate_right
  · exact absurd (BW.out rfl) (by decide)
  · have hFF : F = f0 := by have h := hFe.out; simpa using h
    subst hFF
    go_upto_region 6 with fail
    have k40b : (W.alloc (.cells #[.int .u8 69, .int .u8 0] 5)).cell? ⟨w.heap.size, 40, none⟩ = some (.slice A n c) := K40.out _ (alloc_below _ _)
    have k36b : (W.alloc (.cells #[.int .u8 69, .int .u8 0] 5)).cell? ⟨w.heap.size, 36, none⟩ = some (.int .u32 id1) := K36.out _ (alloc_below _ _)
    have m1 := Lib.hid (show Nums .u8 ((W.alloc (.cells #[.int .u8 69, .int .u8 0] 5)).alloc (.cells #[.int .u64 N, .int .u64 id1, .int .u64 F] 44)) ((W.alloc (.cells #[.int .u8 69, .int .u8 0] 5)).alloc (.cells #[.int .u64 N, .int .u64 id1, .int .u64 F] 44)).heap.size (some ⟨W.heap.size, 0, none⟩) 2 [69, 0] from ((lit_nums .u8 W [69, 0] 5 _ rfl 2 rfl).more (by rw [alloc_size]; exact Nat.le_refl _)).below (alloc_below (W.alloc (.cells #[.int .u8 69, .int .u8 0] 5)) _) |>.more (alloc_below (W.alloc (.cells #[.int .u8 69, .int .u8 0] 5)) _).size)
    have m2 := Lib.hid (show Nums .u64 ((W.alloc (.cells #[.int .u8 69, .int .u8 0] 5)).alloc (.cells #[.int .u64 N, .int .u64 id1, .int .u64 F] 44)) ((W.alloc (.cells #[.int .u8 69, .int .u8 0] 5)).alloc (.cells #[.int .u64 N, .int .u64 id1, .int .u64 F] 44)).heap.size (some ⟨W.heap.size + 1, 0, none⟩) 3 [N, id1, F] by
      have h := lit_nums .u64 (W.alloc (.cells #[.int .u8 69, .int .u8 0] 5)) [N, id1, F] 44 _ rfl 3 rfl
      have e1 : (W.alloc (.cells #[.int .u8 69, .int .u8 0] 5)).heap.size = W.heap.size + 1 := alloc_size _ _
      have e2 : ((W.alloc (.cells #[.int .u8 69, .int .u8 0] 5)).alloc (.cells #[.int .u64 N, .int .u64 id1, .int .u64 F] 44)).heap.size = (W.alloc (.cells #[.int .u8 69, .int .u8 0] 5)).heap.size + 1 := alloc_size _ _
      rw [e2]
      rw [e1] at h ⊢
      exact h)
    have BW3 := Lib.hid (show Below W.heap.size W ((W.alloc (.cells #[.int .u8 69, .int .u8 0] 5)).alloc (.cells #[.int .u64 N, .int .u64 id1, .int .u64 F] 44)) from (alloc_below W _).trans ((alloc_below (W.alloc (.cells #[.int .u8 69, .int .u8 0] 5)) _).mono (alloc_below W _).size))
    go_upto_region 7 with (first
      | (go_at_call 40; (refine (P1.out _ _ _ m1.out m2.out).mono ?_); rintro e w3 ⟨v1, rfl, O1, B1⟩
         have HB3 := Lib.hid (BW3.out.trans (B1.mono BW3.out.size))
         have HBase := Lib.hid (And.intro BW3.out.size B1.size)
         have HO1 := Lib.hid O1
         clear O1 B1))
    have k34 := K34.out _ HB3.out
    have k35 := K35.out _ HB3.out
    clear k36b k40b m1 m2 BW3
    obtain ⟨hB1, hB2⟩ := HBase.out
    have HBw : Hid (w.heap.size ≤ ((W.alloc (.cells #[.int .u8 69, .int .u8 0] 5)).alloc (.cells #[.int .u64 N, .int .u64 id1, .int .u64 F] 44)).heap.size) := Lib.hid (Nat.le_trans HB.out.size hB1)
    have HBW : Hid (W.heap.size ≤ ((W.alloc (.cells #[.int .u8 69, .int .u8 0] 5)).alloc (.cells #[.int .u64 N, .int .u64 id1, .int .u64 F] 44)).heap.size) := Lib.hid hB1
    clear HBase
    have HB2 : Hid (((W.alloc (.cells #[.int .u8 69, .int .u8 0] 5)).alloc (.cells #[.int .u64 N, .int .u64 id1, .int .u64 F] 44)).heap.size ≤ w3.heap.size) := Lib.hid hB2
    clear hB1 hB2
    generalize ((W.alloc (.cells #[.int .u8 69, .int .u8 0] 5)).alloc (.cells #[.int .u64 N, .int .u64 id1, .int .u64 F] 44)).heap.size = B at *
    have e3 : (w3.alloc (.cells #[.int .u8 hops1, .int .u8 proto1, .int .u8 (ck / 256), .int .u8 (ck % 256)] 5)).heap.size = w3.heap.size + 1 := alloc_size _ _
    have m3 := Lib.hid (show Nums .u8 (w3.alloc (.cells #[.int .u8 hops1, .int .u8 proto1, .int .u8 (ck / 256), .int .u8 (ck % 256)] 5)) (w3.heap.size + 1) (some ⟨w3.heap.size, 0, none⟩) 4 [hops1, proto1, ck / 256, ck % 256] from lit_nums .u8 w3 [hops1, proto1, ck / 256, ck % 256] 5 _ rfl 4 rfl)
    have HO2 : Hid (Own .u8 5 (w3.alloc (.cells #[.int .u8 hops1, .int .u8 proto1, .int .u8 (ck / 256), .int .u8 (ck % 256)] 5)) B v1 (octC.putL [69, 0] 2 [N, id1, F])) := Lib.hid (HO1.out.alloc _)
    have HB4 : Hid (B ≤ (w3.alloc (.cells #[.int .u8 hops1, .int .u8 proto1, .int .u8 (ck / 256), .int .u8 (ck % 256)] 5)).heap.size) := Lib.hid (by rw [e3]; have := HB2.out; omega)
    clear e3 HO1
    have hl8 : Hid ((octC.putL [69, 0] 2 [N, id1, F]).length = 8) := Lib.hid (by unfold octC.putL; rw [List.length_append, octC.flat_len]; rfl)
    generalize octC.putL [69, 0] 2 [N, id1, F] = Y0 at *
    go_upto_region 8 with (first
      | (at_builtin; (refine wpList_app _ rfl (.tmp 31) (.tmp 41) _ rfl 5 i0 _ 1 Try.underlying26 T1.out T2.out T3.out T4.out rfl B v1 Y0 rfl HO2.out _ _ 4 4 [hops1, proto1, ck / 256, ck % 256] rfl m3.out (by rw [hl8.out]; decide) (by rw [hl8.out]; decide) HB4.out ?_)
         intro vv Wr O0 hg0
         have HO0 : Hid (Own .u8 5 Wr B vv X0) := Lib.hid (hT.out ▸ O0)
         have HBW4 := Lib.hid (show Below W.heap.size W Wr from (HB3.out.trans ((alloc_below w3 _).mono HB3.out.size)).grown hg0 (Nat.le_trans HBW.out HB4.out) fun g hg => Nat.le_trans HBW.out (HO2.out.blk g hg).1)
         have HB0 := Lib.hid (show B ≤ Wr.heap.size from Nat.le_trans HB4.out ((Below.refl B _).grown hg0 HB4.out fun g hg => (HO2.out.blk g hg).1).size)
         clear O0 hg0))
    have HBB := Lib.hid (show Below w.heap.size w Wr from HB.out.trans (HBW4.out.mono HB.out.size))
    have SA4 := Lib.hid (fun w' (h : Below B Wr w') => (show Nums .u8 w' w'.heap.size (some ⟨w.heap.size, 1, none⟩) 4 a4 from SA.out w' (HBW4.out.trans (h.mono HBW.out))))
    have SB4 := Lib.hid (fun w' (h : Below B Wr w') => (show Nums .u8 w' w'.heap.size (some ⟨w.heap.size, 18, none⟩) 4 b4 from SB.out w' (HBW4.out.trans (h.mono HBW.out))))
    clear m3 HO2 HB4 HBW HB2 HB3 k34 k35
    refine with_act fun a0 ha0 => ?_
    have hl : hdT.length = a0.tmps.size := by rw [ha0]; rfl
    have k2 : a0.tmps[2]?.getD undef = .pointer (some ⟨w.heap.size, 0, none⟩) := by rw [ha0]; rfl
    have k6 : a0.tmps[6]?.getD undef = vv := by rw [ha0]; rfl
    refine wp_region_chain (by kernel_rfl) hdT (by kernel_rfl) (by kernel_rfl) hl (fun i => if i = 9 then .slice none 0 0 else undef) (by rw [ha0]; rfl) (B) [4, 8, 9] (by kernel_rfl) (by decide) (by decide) (fun w' => Below B Wr w') (hdV vv w.heap.size) (hdR B vv X0 X1 X2) HB0.out ((Below.refl _ _).drew) (show Own .u8 5 Wr.drew B vv X0 from HO0.out.keep fun _ _ _ => rfl) (fun w w' _ h1 h2 => h2.trans h1) (fun i v w w' _ _ h => hdV.keep _ _ i v w w' h) (hdR.keep _ _ _ _ _) ⟨?_, ?_, ?_, ?_, ?_, ?_, ?_, ?_, ?_, ?_, trivial⟩ ?_
    · refine stepC_val [] (by kernel_rfl) (by decide) (by decide) rfl fun us w' hB hG hV => ?_
      have o6 := (frame_old2 (us := us) (a := a0) (show (hdT[6]?).join = none from rfl)).trans k6
      generalize frame hdT a0 us = fr at *
      exact val_C (v := vv) (w' := w') (by go_simp) (Below.refl _ _) rfl
    · refine stepC_val [] (by kernel_rfl) (by decide) (by decide) rfl fun us w' hB hG hV => ?_
      have o2 := (frame_old2 (us := us) (a := a0) (show (hdT[2]?).join = none from rfl)).trans k2
      generalize frame hdT a0 us = fr at *
      exact val_C (v := .pointer (some ⟨w.heap.size, 0, none⟩)) (w' := w') (by go_simp) (Below.refl _ _) rfl
    · refine stepC_val [1] (by kernel_rfl) (by decide) (by decide) rfl fun us w' hB hG hV => ?_
      have e1 : us 1 = .pointer (some ⟨w.heap.size, 0, none⟩) := hV 1 (by simp)
      have v1 := (frame_at2 (us := us) hl (show (hdT[44]?).join = some 1 from rfl)).trans e1
      generalize frame hdT a0 us = fr at *
      exact val_C (v := .pointer (some ⟨w.heap.size, 1, none⟩)) (w' := w') (by go_simp) (Below.refl _ _) rfl
    · refine stepC_val [2] (by kernel_rfl) (by decide) (by decide) rfl fun us w' hB hG hV => ?_
      have e2 : us 2 = .pointer (some ⟨w.heap.size, 1, none⟩) := hV 2 (by simp)
      have v2 := (frame_at2 (us := us) hl (show (hdT[45]?).join = some 2 from rfl)).trans e2
      generalize frame hdT a0 us = fr at *
      exact val_C (v := .slice (some ⟨w.heap.size, 1, none⟩) 4 16) (w' := w') (by go_simp) (Below.refl _ _) rfl
    · refine stepC_chain 0 rfl (by decide) [0, 3] (by kernel_rfl) (by decide) rfl fun us w' hB hG hV hR => ?_
      have e0 : us 0 = vv := hV 0 (by simp)
      have v0 := (frame_at2 (us := us) hl (show (hdT[43]?).join = some 0 from rfl)).trans e0
      have e3 : us 3 = .slice (some ⟨w.heap.size, 1, none⟩) 4 16 := hV 3 (by simp)
      have v3 := (frame_at2 (us := us) hl (show (hdT[46]?).join = some 3 from rfl)).trans e3
      generalize frame hdT a0 us = fr at *
      exact append_Jo (R := fun v w'' => Below B w' w'' ∧ hdR B vv X0 X1 X2 1 (upd us 4 v) w'') (.tmp 43) (.tmp 46) 26 rfl 5 i0 _ 1 Try.underlying26 T1.out T2.out T3.out T4.out rfl B _ X0 (eval_tmp v0) hR w'.heap.size _ 4 16 a4 (eval_tmp v3) ((SA4.out w' hG).more (Nat.le_refl _)) (by rw [L0.out]; decide) (by rw [L0.out]; decide) hB 16 (by rw [L0.out]) fun A' c' w'' _ _ O' B' => ⟨B', hdR.m1 (E1.out ▸ O')⟩
    · refine stepC_val [] (by kernel_rfl) (by decide) (by decide) rfl fun us w' hB hG hV => ?_
      have o2 := (frame_old2 (us := us) (a := a0) (show (hdT[2]?).join = none from rfl)).trans k2
      generalize frame hdT a0 us = fr at *
      exact val_C (v := .pointer (some ⟨w.heap.size, 17, none⟩)) (w' := w') (by go_simp) (Below.refl _ _) rfl
    · refine stepC_val [5] (by kernel_rfl) (by decide) (by decide) rfl fun us w' hB hG hV => ?_
      have e5 : us 5 = .pointer (some ⟨w.heap.size, 17, none⟩) := hV 5 (by simp)
      have v5 := (frame_at2 (us := us) hl (show (hdT[48]?).join = some 5 from rfl)).trans e5
      generalize frame hdT a0 us = fr at *
      exact val_C (v := .pointer (some ⟨w.heap.size, 18, none⟩)) (w' := w') (by go_simp) (Below.refl _ _) rfl
    · refine stepC_val [6] (by kernel_rfl) (by decide) (by decide) rfl fun us w' hB hG hV => ?_
      have e6 : us 6 = .pointer (some ⟨w.heap.size, 18, none⟩) := hV 6 (by simp)
      have v6 := (frame_at2 (us := us) hl (show (hdT[49]?).join = some 6 from rfl)).trans e6
      generalize frame hdT a0 us = fr at *
      exact val_C (v := .slice (some ⟨w.heap.size, 18, none⟩) 4 16) (w' := w') (by go_simp) (Below.refl _ _) rfl
    · refine stepC_chain 1 rfl (by decide) [7] (by kernel_rfl) (by decide) rfl fun us w' hB hG hV hR => ?_
      have e7 : us 7 = .slice (some ⟨w.heap.size, 18, none⟩) 4 16 := hV 7 (by simp)
      have v7 := (frame_at2 (us := us) hl (show (hdT[50]?).join = some 7 from rfl)).trans e7
      have vc := frame_at2 (us := us) hl (show (hdT[47]?).join = some 4 from rfl)
      generalize frame hdT a0 us = fr at *
      exact append_Jo (R := fun v w'' => Below B w' w'' ∧ hdR B vv X0 X1 X2 2 (upd us 8 v) w'') (.tmp 47) (.tmp 50) 26 rfl 5 i0 _ 1 Try.underlying26 T1.out T2.out T3.out T4.out rfl B _ X1 (eval_tmp vc) hR w'.heap.size _ 4 16 b4 (eval_tmp v7) (SB4.out w' hG) (by rw [L1.out]; decide) (by rw [L1.out]; decide) hB 20 (by rw [L1.out]) fun A' c' w'' _ _ O' B' => ⟨B', hdR.m2 (E2.out ▸ O')⟩
    · refine stepC_chain 2 rfl (by decide) [] (by kernel_rfl) (by decide) rfl fun us w' hB hG hV hR => ?_
      have vc := frame_at2 (us := us) hl (show (hdT[51]?).join = some 8 from rfl)
      generalize frame hdT a0 us = fr at *
      exact val_J (R := fun v w'' => Below B w' w'' ∧ hdR B vv X0 X1 X2 3 (upd us 9 v) w'') (v := us 8) (w' := w') (by go_simp) ⟨Below.refl _ _, hdR.m3 hR⟩
    · intro us w2 hB hG hV hR
      subst ha0
      simp only [frame, hdT, fill]
      have HR : Hid (Own .u8 5 w2 B (us 9) X2) := Lib.hid hR
      have HG := Lib.hid hG
      clear hV hR hG hl k2 k6
      generalize us 9 = v9 at *
      go_wp2_with fail
      go_ret
      exact ⟨_, rfl, HR.out.less HBw.out, HBB.out.trans (HG.out.mono HBw.out)⟩
  · have hFF : f0 + 8192 = F := by have h := hFe.out; simp at h; omega
    go_upto_region 6 with fail
    have k40b : (W.alloc (.cells #[.int .u8 69, .int .u8 0] 5)).cell? ⟨w.heap.size, 40, none⟩ = some (.slice A n c) := K40.out _ (alloc_below _ _)
    have k36b : (W.alloc (.cells #[.int .u8 69, .int .u8 0] 5)).cell? ⟨w.heap.size, 36, none⟩ = some (.int .u32 id1) := K36.out _ (alloc_below _ _)
    have m1 := Lib.hid (show Nums .u8 ((W.alloc (.cells #[.int .u8 69, .int .u8 0] 5)).alloc (.cells #[.int .u64 N, .int .u64 id1, .int .u64 F] 44)) ((W.alloc (.cells #[.int .u8 69, .int .u8 0] 5)).alloc (.cells #[.int .u64 N, .int .u64 id1, .int .u64 F] 44)).heap.size (some ⟨W.heap.size, 0, none⟩) 2 [69, 0] from ((lit_nums .u8 W [69, 0] 5 _ rfl 2 rfl).more (by rw [alloc_size]; exact Nat.le_refl _)).below (alloc_below (W.alloc (.cells #[.int .u8 69, .int .u8 0] 5)) _) |>.more (alloc_below (W.alloc (.cells #[.int .u8 69, .int .u8 0] 5)) _).size)
    have m2 := Lib.hid (show Nums .u64 ((W.alloc (.cells #[.int .u8 69, .int .u8 0] 5)).alloc (.cells #[.int .u64 N, .int .u64 id1, .int .u64 F] 44)) ((W.alloc (.cells #[.int .u8 69, .int .u8 0] 5)).alloc (.cells #[.int .u64 N, .int .u64 id1, .int .u64 F] 44)).heap.size (some ⟨W.heap.size + 1, 0, none⟩) 3 [N, id1, F] by
      have h := lit_nums .u64 (W.alloc (.cells #[.int .u8 69, .int .u8 0] 5)) [N, id1, F] 44 _ rfl 3 rfl
      have e1 : (W.alloc (.cells #[.int .u8 69, .int .u8 0] 5)).heap.size = W.heap.size + 1 := alloc_size _ _
      have e2 : ((W.alloc (.cells #[.int .u8 69, .int .u8 0] 5)).alloc (.cells #[.int .u64 N, .int .u64 id1, .int .u64 F] 44)).heap.size = (W.alloc (.cells #[.int .u8 69, .int .u8 0] 5)).heap.size + 1 := alloc_size _ _
      rw [e2]
      rw [e1] at h ⊢
      exact h)
    have BW3 := Lib.hid (show Below W.heap.size W ((W.alloc (.cells #[.int .u8 69, .int .u8 0] 5)).alloc (.cells #[.int .u64 N, .int .u64 id1, .int .u64 F] 44)) from (alloc_below W _).trans ((alloc_below (W.alloc (.cells #[.int .u8 69, .int .u8 0] 5)) _).mono (alloc_below W _).size))
    go_upto_region 7 with (first
      | (go_at_call 40; (refine (P1.out _ _ _ m1.out m2.out).mono ?_); rintro e w3 ⟨v1, rfl, O1, B1⟩
         have HB3 := Lib.hid (BW3.out.trans (B1.mono BW3.out.size))
         have HBase := Lib.hid (And.intro BW3.out.size B1.size)
         have HO1 := Lib.hid O1
         clear O1 B1))
    have k34 := K34.out _ HB3.out
    have k35 := K35.out _ HB3.out
    clear k36b k40b m1 m2 BW3
    obtain ⟨hB1, hB2⟩ := HBase.out
    have HBw : Hid (w.heap.size ≤ ((W.alloc (.cells #[.int .u8 69, .int .u8 0] 5)).alloc (.cells #[.int .u64 N, .int .u64 id1, .int .u64 F] 44)).heap.size) := Lib.hid (Nat.le_trans HB.out.size hB1)
    have HBW : Hid (W.heap.size ≤ ((W.alloc (.cells #[.int .u8 69, .int .u8 0] 5)).alloc (.cells #[.int .u64 N, .int .u64 id1, .int .u64 F] 44)).heap.size) := Lib.hid hB1
    clear HBase
    have HB2 : Hid (((W.alloc (.cells #[.int .u8 69, .int .u8 0] 5)).alloc (.cells #[.int .u64 N, .int .u64 id1, .int .u64 F] 44)).heap.size ≤ w3.heap.size) := Lib.hid hB2
    clear hB1 hB2
    generalize ((W.alloc (.cells #[.int .u8 69, .int .u8 0] 5)).alloc (.cells #[.int .u64 N, .int .u64 id1, .int .u64 F] 44)).heap.size = B at *
    have e3 : (w3.alloc (.cells #[.int .u8 hops1, .int .u8 proto1, .int .u8 (ck / 256), .int .u8 (ck % 256)] 5)).heap.size = w3.heap.size + 1 := alloc_size _ _
    have m3 := Lib.hid (show Nums .u8 (w3.alloc (.cells #[.int .u8 hops1, .int .u8 proto1, .int .u8 (ck / 256), .int .u8 (ck % 256)] 5)) (w3.heap.size + 1) (some ⟨w3.heap.size, 0, none⟩) 4 [hops1, proto1, ck / 256, ck % 256] from lit_nums .u8 w3 [hops1, proto1, ck / 256, ck % 256] 5 _ rfl 4 rfl)
    have HO2 : Hid (Own .u8 5 (w3.alloc (.cells #[.int .u8 hops1, .int .u8 proto1, .int .u8 (ck / 256), .int .u8 (ck % 256)] 5)) B v1 (octC.putL [69, 0] 2 [N, id1, F])) := Lib.hid (HO1.out.alloc _)
    have HB4 : Hid (B ≤ (w3.alloc (.cells #[.int .u8 hops1, .int .u8 proto1, .int .u8 (ck / 256), .int .u8 (ck % 256)] 5)).heap.size) := Lib.hid (by rw [e3]; have := HB2.out; omega)
    clear e3 HO1
    have hl8 : Hid ((octC.putL [69, 0] 2 [N, id1, F]).length = 8) := Lib.hid (by unfold octC.putL; rw [List.length_append, octC.flat_len]; rfl)
    generalize octC.putL [69, 0] 2 [N, id1, F] = Y0 at *
    go_upto_region 8 with (first
      | (at_builtin; (refine wpList_app _ rfl (.tmp 31) (.tmp 41) _ rfl 5 i0 _ 1 Try.underlying26 T1.out T2.out T3.out T4.out rfl B v1 Y0 rfl HO2.out _ _ 4 4 [hops1, proto1, ck / 256, ck % 256] rfl m3.out (by rw [hl8.out]; decide) (by rw [hl8.out]; decide) HB4.out ?_)
         intro vv Wr O0 hg0
         have HO0 : Hid (Own .u8 5 Wr B vv X0) := Lib.hid (hT.out ▸ O0)
         have HBW4 := Lib.hid (show Below W.heap.size W Wr from (HB3.out.trans ((alloc_below w3 _).mono HB3.out.size)).grown hg0 (Nat.le_trans HBW.out HB4.out) fun g hg => Nat.le_trans HBW.out (HO2.out.blk g hg).1)
         have HB0 := Lib.hid (show B ≤ Wr.heap.size from Nat.le_trans HB4.out ((Below.refl B _).grown hg0 HB4.out fun g hg => (HO2.out.blk g hg).1).size)
         clear O0 hg0))
    have HBB := Lib.hid (show Below w.heap.size w Wr from HB.out.trans (HBW4.out.mono HB.out.size))
    have SA4 := Lib.hid (fun w' (h : Below B Wr w') => (show Nums .u8 w' w'.heap.size (some ⟨w.heap.size, 1, none⟩) 4 a4 from SA.out w' (HBW4.out.trans (h.mono HBW.out))))
    have SB4 := Lib.hid (fun w' (h : Below B Wr w') => (show Nums .u8 w' w'.heap.size (some ⟨w.heap.size, 18, none⟩) 4 b4 from SB.out w' (HBW4.out.trans (h.mono HBW.out))))
    clear m3 HO2 HB4 HBW HB2 HB3 k34 k35
    refine with_act fun a0 ha0 => ?_
    have hl : hdT.length = a0.tmps.size := by rw [ha0]; rfl
    have k2 : a0.tmps[2]?.getD undef = .pointer (some ⟨w.heap.size, 0, none⟩) := by rw [ha0]; rfl
    have k6 : a0.tmps[6]?.getD undef = vv := by rw [ha0]; rfl
    refine wp_region_chain (by kernel_rfl) hdT (by kernel_rfl) (by kernel_rfl) hl (fun i => if i = 9 then .slice none 0 0 else undef) (by rw [ha0]; rfl) (B) [4, 8, 9] (by kernel_rfl) (by decide) (by decide) (fun w' => Below B Wr w') (hdV vv w.heap.size) (hdR B vv X0 X1 X2) HB0.out ((Below.refl _ _).drew) (show Own .u8 5 Wr.drew B vv X0 from HO0.out.keep fun _ _ _ => rfl) (fun w w' _ h1 h2 => h2.trans h1) (fun i v w w' _ _ h => hdV.keep _ _ i v w w' h) (hdR.keep _ _ _ _ _) ⟨?_, ?_, ?_, ?_, ?_, ?_, ?_, ?_, ?_, ?_, trivial⟩ ?_
    · refine stepC_val [] (by kernel_rfl) (by decide) (by decide) rfl fun us w' hB hG hV => ?_
      have o6 := (frame_old2 (us := us) (a := a0) (show (hdT[6]?).join = none from rfl)).trans k6
      generalize frame hdT a0 us = fr at *
      exact val_C (v := vv) (w' := w') (by go_simp) (Below.refl _ _) rfl
    · refine stepC_val [] (by kernel_rfl) (by decide) (by decide) rfl fun us w' hB hG hV => ?_
      have o2 := (frame_old2 (us := us) (a := a0) (show (hdT[2]?).join = none from rfl)).trans k2
      generalize frame hdT a0 us = fr at *
      exact val_C (v := .pointer (some ⟨w.heap.size, 0, none⟩)) (w' := w') (by go_simp) (Below.refl _ _) rfl
    · refine stepC_val [1] (by kernel_rfl) (by decide) (by decide) rfl fun us w' hB hG hV => ?_
      have e1 : us 1 = .pointer (some ⟨w.heap.size, 0, none⟩) := hV 1 (by simp)
      have v1 := (frame_at2 (us := us) hl (show (hdT[44]?).join = some 1 from rfl)).trans e1
      generalize frame hdT a0 us = fr at *
      exact val_C (v := .pointer (some ⟨w.heap.size, 1, none⟩)) (w' := w') (by go_simp) (Below.refl _ _) rfl
    · refine stepC_val [2] (by kernel_rfl) (by decide) (by decide) rfl fun us w' hB hG hV => ?_
      have e2 : us 2 = .pointer (some ⟨w.heap.size, 1, none⟩) := hV 2 (by simp)
      have v2 := (frame_at2 (us := us) hl (show (hdT[45]?).join = some 2 from rfl)).trans e2
      generalize frame hdT a0 us = fr at *
      exact val_C (v := .slice (some ⟨w.heap.size, 1, none⟩) 4 16) (w' := w') (by go_simp) (Below.refl _ _) rfl
    · refine stepC_chain 0 rfl (by decide) [0, 3] (by kernel_rfl) (by decide) rfl fun us w' hB hG hV hR => ?_
      have e0 : us 0 = vv := hV 0 (by simp)
      have v0 := (frame_at2 (us := us) hl (show (hdT[43]?).join = some 0 from rfl)).trans e0
      have e3 : us 3 = .slice (some ⟨w.heap.size, 1, none⟩) 4 16 := hV 3 (by simp)
      have v3 := (frame_at2 (us := us) hl (show (hdT[46]?).join = some 3 from rfl)).trans e3
      generalize frame hdT a0 us = fr at *
      exact append_Jo (R := fun v w'' => Below B w' w'' ∧ hdR B vv X0 X1 X2 1 (upd us 4 v) w'') (.tmp 43) (.tmp 46) 26 rfl 5 i0 _ 1 Try.underlying26 T1.out T2.out T3.out T4.out rfl B _ X0 (eval_tmp v0) hR w'.heap.size _ 4 16 a4 (eval_tmp v3) ((SA4.out w' hG).more (Nat.le_refl _)) (by rw [L0.out]; decide) (by rw [L0.out]; decide) hB 16 (by rw [L0.out]) fun A' c' w'' _ _ O' B' => ⟨B', hdR.m1 (E1.out ▸ O')⟩
    · refine stepC_val [] (by kernel_rfl) (by decide) (by decide) rfl fun us w' hB hG hV => ?_
      have o2 := (frame_old2 (us := us) (a := a0) (show (hdT[2]?).join = none from rfl)).trans k2
      generalize frame hdT a0 us = fr at *
      exact val_C (v := .pointer (some ⟨w.heap.size, 17, none⟩)) (w' := w') (by go_simp) (Below.refl _ _) rfl
    · refine stepC_val [5] (by kernel_rfl) (by decide) (by decide) rfl fun us w' hB hG hV => ?_
      have e5 : us 5 = .pointer (some ⟨w.heap.size, 17, none⟩) := hV 5 (by simp)
      have v5 := (frame_at2 (us := us) hl (show (hdT[48]?).join = some 5 from rfl)).trans e5
      generalize frame hdT a0 us = fr at *
      exact val_C (v := .pointer (some ⟨w.heap.size, 18, none⟩)) (w' := w') (by go_simp) (Below.refl _ _) rfl
    · refine stepC_val [6] (by kernel_rfl) (by decide) (by decide) rfl fun us w' hB hG hV => ?_
      have e6 : us 6 = .pointer (some ⟨w.heap.size, 18, none⟩) := hV 6 (by simp)
      have v6 := (frame_at2 (us := us) hl (show (hdT[49]?).join = some 6 from rfl)).trans e6
      generalize frame hdT a0 us = fr at *
      exact val_C (v := .slice (some ⟨w.heap.size, 18, none⟩) 4 16) (w' := w') (by go_simp) (Below.refl _ _) rfl
    · refine stepC_chain 1 rfl (by decide) [7] (by kernel_rfl) (by decide) rfl fun us w' hB hG hV hR => ?_
      have e7 : us 7 = .slice (some ⟨w.heap.size, 18, none⟩) 4 16 := hV 7 (by simp)
      have v7 := (frame_at2 (us := us) hl (show (hdT[50]?).join = some 7 from rfl)).trans e7
      have vc := frame_at2 (us := us) hl (show (hdT[47]?).join = some 4 from rfl)
      generalize frame hdT a0 us = fr at *
      exact append_Jo (R := fun v w'' => Below B w' w'' ∧ hdR B vv X0 X1 X2 2 (upd us 8 v) w'') (.tmp 47) (.tmp 50) 26 rfl 5 i0 _ 1 Try.underlying26 T1.out T2.out T3.out T4.out rfl B _ X1 (eval_tmp vc) hR w'.heap.size _ 4 16 b4 (eval_tmp v7) (SB4.out w' hG) (by rw [L1.out]; decide) (by rw [L1.out]; decide) hB 20 (by rw [L1.out]) fun A' c' w'' _ _ O' B' => ⟨B', hdR.m2 (E2.out ▸ O')⟩
    · refine stepC_chain 2 rfl (by decide) [] (by kernel_rfl) (by decide) rfl fun us w' hB hG hV hR => ?_
      have vc := frame_at2 (us := us) hl (show (hdT[51]?).join = some 8 from rfl)
      generalize frame hdT a0 us = fr at *
      exact val_J (R := fun v w'' => Below B w' w'' ∧ hdR B vv X0 X1 X2 3 (upd us 9 v) w'') (v := us 8) (w' := w') (by go_simp) ⟨Below.refl _ _, hdR.m3 hR⟩
    · intro us w2 hB hG hV hR
      subst ha0
      simp only [frame, hdT, fill]
      have HR : Hid (Own .u8 5 w2 B (us 9) X2) := Lib.hid hR
      have HG := Lib.hid hG
      clear hV hR hG hl k2 k6
      generalize us 9 = v9 at *
      go_wp2_with fail
      go_ret
      exact ⟨_, rfl, HR.out.less HBw.out, HBB.out.trans (HG.out.mono HBw.out)⟩
  · have hFF : f0 + 16384 = F := by have h := hFe.out; simp at h; omega
    go_upto_region 6 with fail
    have k40b : (W.alloc (.cells #[.int .u8 69, .int .u8 0] 5)).cell? ⟨w.heap.size, 40, none⟩ = some (.slice A n c) := K40.out _ (alloc_below _ _)
    have k36b : (W.alloc (.cells #[.int .u8 69, .int .u8 0] 5)).cell? ⟨w.heap.size, 36, none⟩ = some (.int .u32 id1) := K36.out _ (alloc_below _ _)
    have m1 := Lib.hid (show Nums .u8 ((W.alloc (.cells #[.int .u8 69, .int .u8 0] 5)).alloc (.cells #[.int .u64 N, .int .u64 id1, .int .u64 F] 44)) ((W.alloc (.cells #[.int .u8 69, .int .u8 0] 5)).alloc (.cells #[.int .u64 N, .int .u64 id1, .int .u64 F] 44)).heap.size (some ⟨W.heap.size, 0, none⟩) 2 [69, 0] from ((lit_nums .u8 W [69, 0] 5 _ rfl 2 rfl).more (by rw [alloc_size]; exact Nat.le_refl _)).below (alloc_below (W.alloc (.cells #[.int .u8 69, .int .u8 0] 5)) _) |>.more (alloc_below (W.alloc (.cells #[.int .u8 69, .int .u8 0] 5)) _).size)
    have m2 := Lib.hid (show Nums .u64 ((W.alloc (.cells #[.int .u8 69, .int .u8 0] 5)).alloc (.cells #[.int .u64 N, .int .u64 id1, .int .u64 F] 44)) ((W.alloc (.cells #[.int .u8 69, .int .u8 0] 5)).alloc (.cells #[.int .u64 N, .int .u64 id1, .int .u64 F] 44)).heap.size (some ⟨W.heap.size + 1, 0, none⟩) 3 [N, id1, F] by
      have h := lit_nums .u64 (W.alloc (.cells #[.int .u8 69, .int .u8 0] 5)) [N, id1, F] 44 _ rfl 3 rfl
      have e1 : (W.alloc (.cells #[.int .u8 69, .int .u8 0] 5)).heap.size = W.heap.size + 1 := alloc_size _ _
      have e2 : ((W.alloc (.cells #[.int .u8 69, .int .u8 0] 5)).alloc (.cells #[.int .u64 N, .int .u64 id1, .int .u64 F] 44)).heap.size = (W.alloc (.cells #[.int .u8 69, .int .u8 0] 5)).heap.size + 1 := alloc_size _ _
      rw [e2]
      rw [e1] at h ⊢
      exact h)
    have BW3 := Lib.hid (show Below W.heap.size W ((W.alloc (.cells #[.int .u8 69, .int .u8 0] 5)).alloc (.cells #[.int .u64 N, .int .u64 id1, .int .u64 F] 44)) from (alloc_below W _).trans ((alloc_below (W.alloc (.cells #[.int .u8 69, .int .u8 0] 5)) _).mono (alloc_below W _).size))
    go_upto_region 7 with (first
      | (go_at_call 40; (refine (P1.out _ _ _ m1.out m2.out).mono ?_); rintro e w3 ⟨v1, rfl, O1, B1⟩
         have HB3 := Lib.hid (BW3.out.trans (B1.mono BW3.out.size))
         have HBase := Lib.hid (And.intro BW3.out.size B1.size)
         have HO1 := Lib.hid O1
         clear O1 B1))
    have k34 := K34.out _ HB3.out
    have k35 := K35.out _ HB3.out
    clear k36b k40b m1 m2 BW3
    obtain ⟨hB1, hB2⟩ := HBase.out
    have HBw : Hid (w.heap.size ≤ ((W.alloc (.cells #[.int .u8 69, .int .u8 0] 5)).alloc (.cells #[.int .u64 N, .int .u64 id1, .int .u64 F] 44)).heap.size) := Lib.hid (Nat.le_trans HB.out.size hB1)
    have HBW : Hid (W.heap.size ≤ ((W.alloc (.cells #[.int .u8 69, .int .u8 0] 5)).alloc (.cells #[.int .u64 N, .int .u64 id1, .int .u64 F] 44)).heap.size) := Lib.hid hB1
    clear HBase
    have HB2 : Hid (((W.alloc (.cells #[.int .u8 69, .int .u8 0] 5)).alloc (.cells #[.int .u64 N, .int .u64 id1, .int .u64 F] 44)).heap.size ≤ w3.heap.size) := Lib.hid hB2
    clear hB1 hB2
    generalize ((W.alloc (.cells #[.int .u8 69, .int .u8 0] 5)).alloc (.cells #[.int .u64 N, .int .u64 id1, .int .u64 F] 44)).heap.size = B at *
    have e3 : (w3.alloc (.cells #[.int .u8 hops1, .int .u8 proto1, .int .u8 (ck / 256), .int .u8 (ck % 256)] 5)).heap.size = w3.heap.size + 1 := alloc_size _ _
    have m3 := Lib.hid (show Nums .u8 (w3.alloc (.cells #[.int .u8 hops1, .int .u8 proto1, .int .u8 (ck / 256), .int .u8 (ck % 256)] 5)) (w3.heap.size + 1) (some ⟨w3.heap.size, 0, none⟩) 4 [hops1, proto1, ck / 256, ck % 256] from lit_nums .u8 w3 [hops1, proto1, ck / 256, ck % 256] 5 _ rfl 4 rfl)
    have HO2 : Hid (Own .u8 5 (w3.alloc (.cells #[.int .u8 hops1, .int .u8 proto1, .int .u8 (ck / 256), .int .u8 (ck % 256)] 5)) B v1 (octC.putL [69, 0] 2 [N, id1, F])) := Lib.hid (HO1.out.alloc _)
    have HB4 : Hid (B ≤ (w3.alloc (.cells #[.int .u8 hops1, .int .u8 proto1, .int .u8 (ck / 256), .int .u8 (ck % 256)] 5)).heap.size) := Lib.hid (by rw [e3]; have := HB2.out; omega)
    clear e3 HO1
    have hl8 : Hid ((octC.putL [69, 0] 2 [N, id1, F]).length = 8) := Lib.hid (by unfold octC.putL; rw [List.length_append, octC.flat_len]; rfl)
    generalize octC.putL [69, 0] 2 [N, id1, F] = Y0 at *
    go_upto_region 8 with (first
      | (at_builtin; (refine wpList_app _ rfl (.tmp 31) (.tmp 41) _ rfl 5 i0 _ 1 Try.underlying26 T1.out T2.out T3.out T4.out rfl B v1 Y0 rfl HO2.out _ _ 4 4 [hops1, proto1, ck / 256, ck % 256] rfl m3.out (by rw [hl8.out]; decide) (by rw [hl8.out]; decide) HB4.out ?_)
         intro vv Wr O0 hg0
         have HO0 : Hid (Own .u8 5 Wr B vv X0) := Lib.hid (hT.out ▸ O0)
         have HBW4 := Lib.hid (show Below W.heap.size W Wr from (HB3.out.trans ((alloc_below w3 _).mono HB3.out.size)).grown hg0 (Nat.le_trans HBW.out HB4.out) fun g hg => Nat.le_trans HBW.out (HO2.out.blk g hg).1)
         have HB0 := Lib.hid (show B ≤ Wr.heap.size from Nat.le_trans HB4.out ((Below.refl B _).grown hg0 HB4.out fun g hg => (HO2.out.blk g hg).1).size)
         clear O0 hg0))
    have HBB := Lib.hid (show Below w.heap.size w Wr from HB.out.trans (HBW4.out.mono HB.out.size))
    have SA4 := Lib.hid (fun w' (h : Below B Wr w') => (show Nums .u8 w' w'.heap.size (some ⟨w.heap.size, 1, none⟩) 4 a4 from SA.out w' (HBW4.out.trans (h.mono HBW.out))))
    have SB4 := Lib.hid (fun w' (h : Below B Wr w') => (show Nums .u8 w' w'.heap.size (some ⟨w.heap.size, 18, none⟩) 4 b4 from SB.out w' (HBW4.out.trans (h.mono HBW.out))))
    clear m3 HO2 HB4 HBW HB2 HB3 k34 k35
    refine with_act fun a0 ha0 => ?_
    have hl : hdT.length = a0.tmps.size := by rw [ha0]; rfl
    have k2 : a0.tmps[2]?.getD undef = .pointer (some ⟨w.heap.size, 0, none⟩) := by rw [ha0]; rfl
    have k6 : a0.tmps[6]?.getD undef = vv := by rw [ha0]; rfl
    refine wp_region_chain (by kernel_rfl) hdT (by kernel_rfl) (by kernel_rfl) hl (fun i => if i = 9 then .slice none 0 0 else undef) (by rw [ha0]; rfl) (B) [4, 8, 9] (by kernel_rfl) (by decide) (by decide) (fun w' => Below B Wr w') (hdV vv w.heap.size) (hdR B vv X0 X1 X2) HB0.out ((Below.refl _ _).drew) (show Own .u8 5 Wr.drew B vv X0 from HO0.out.keep fun _ _ _ => rfl) (fun w w' _ h1 h2 => h2.trans h1) (fun i v w w' _ _ h => hdV.keep _ _ i v w w' h) (hdR.keep _ _ _ _ _) ⟨?_, ?_, ?_, ?_, ?_, ?_, ?_, ?_, ?_, ?_, trivial⟩ ?_
    · refine stepC_val [] (by kernel_rfl) (by decide) (by decide) rfl fun us w' hB hG hV => ?_
      have o6 := (frame_old2 (us := us) (a := a0) (show (hdT[6]?).join = none from rfl)).trans k6
      generalize frame hdT a0 us = fr at *
      exact val_C (v := vv) (w' := w') (by go_simp) (Below.refl _ _) rfl
    · refine stepC_val [] (by kernel_rfl) (by decide) (by decide) rfl fun us w' hB hG hV => ?_
      have o2 := (frame_old2 (us := us) (a := a0) (show (hdT[2]?).join = none from rfl)).trans k2
      generalize frame hdT a0 us = fr at *
      exact val_C (v := .pointer (some ⟨w.heap.size, 0, none⟩)) (w' := w') (by go_simp) (Below.refl _ _) rfl
    · refine stepC_val [1] (by kernel_rfl) (by decide) (by decide) rfl fun us w' hB hG hV => ?_
      have e1 : us 1 = .pointer (some ⟨w.heap.size, 0, none⟩) := hV 1 (by simp)
      have v1 := (frame_at2 (us := us) hl (show (hdT[44]?).join = some 1 from rfl)).trans e1
      generalize frame hdT a0 us = fr at *
      exact val_C (v := .pointer (some ⟨w.heap.size, 1, none⟩)) (w' := w') (by go_simp) (Below.refl _ _) rfl
    · refine stepC_val [2] (by kernel_rfl) (by decide) (by decide) rfl fun us w' hB hG hV => ?_
      have e2 : us 2 = .pointer (some ⟨w.heap.size, 1, none⟩) := hV 2 (by simp)
      have v2 := (frame_at2 (us := us) hl (show (hdT[45]?).join = some 2 from rfl)).trans e2
      generalize frame hdT a0 us = fr at *
      exact val_C (v := .slice (some ⟨w.heap.size, 1, none⟩) 4 16) (w' := w') (by go_simp) (Below.refl _ _) rfl
    · refine stepC_chain 0 rfl (by decide) [0, 3] (by kernel_rfl) (by decide) rfl fun us w' hB hG hV hR => ?_
      have e0 : us 0 = vv := hV 0 (by simp)
      have v0 := (frame_at2 (us := us) hl (show (hdT[43]?).join = some 0 from rfl)).trans e0
      have e3 : us 3 = .slice (some ⟨w.heap.size, 1, none⟩) 4 16 := hV 3 (by simp)
      have v3 := (frame_at2 (us := us) hl (show (hdT[46]?).join = some 3 from rfl)).trans e3
      generalize frame hdT a0 us = fr at *
      exact append_Jo (R := fun v w'' => Below B w' w'' ∧ hdR B vv X0 X1 X2 1 (upd us 4 v) w'') (.tmp 43) (.tmp 46) 26 rfl 5 i0 _ 1 Try.underlying26 T1.out T2.out T3.out T4.out rfl B _ X0 (eval_tmp v0) hR w'.heap.size _ 4 16 a4 (eval_tmp v3) ((SA4.out w' hG).more (Nat.le_refl _)) (by rw [L0.out]; decide) (by rw [L0.out]; decide) hB 16 (by rw [L0.out]) fun A' c' w'' _ _ O' B' => ⟨B', hdR.m1 (E1.out ▸ O')⟩
    · refine stepC_val [] (by kernel_rfl) (by decide) (by decide) rfl fun us w' hB hG hV => ?_
      have o2 := (frame_old2 (us := us) (a := a0) (show (hdT[2]?).join = none from rfl)).trans k2
      generalize frame hdT a0 us = fr at *
      exact val_C (v := .pointer (some ⟨w.heap.size, 17, none⟩)) (w' := w') (by go_simp) (Below.refl _ _) rfl
    · refine stepC_val [5] (by kernel_rfl) (by decide) (by decide) rfl fun us w' hB hG hV => ?_
      have e5 : us 5 = .pointer (some ⟨w.heap.size, 17, none⟩) := hV 5 (by simp)
      have v5 := (frame_at2 (us := us) hl (show (hdT[48]?).join = some 5 from rfl)).trans e5
      generalize frame hdT a0 us = fr at *
      exact val_C (v := .pointer (some ⟨w.heap.size, 18, none⟩)) (w' := w') (by go_simp) (Below.refl _ _) rfl
    · refine stepC_val [6] (by kernel_rfl) (by decide) (by decide) rfl fun us w' hB hG hV => ?_
      have e6 : us 6 = .pointer (some ⟨w.heap.size, 18, none⟩) := hV 6 (by simp)
      have v6 := (frame_at2 (us := us) hl (show (hdT[49]?).join = some 6 from rfl)).trans e6
      generalize frame hdT a0 us = fr at *
      exact val_C (v := .slice (some ⟨w.heap.size, 18, none⟩) 4 16) (w' := w') (by go_simp) (Below.refl _ _) rfl
    · refine stepC_chain 1 rfl (by decide) [7] (by kernel_rfl) (by decide) rfl fun us w' hB hG hV hR => ?_
      have e7 : us 7 = .slice (some ⟨w.heap.size, 18, none⟩) 4 16 := hV 7 (by simp)
      have v7 := (frame_at2 (us := us) hl (show (hdT[50]?).join = some 7 from rfl)).trans e7
      have vc := frame_at2 (us := us) hl (show (hdT[47]?).join = some 4 from rfl)
      generalize frame hdT a0 us = fr at *
      exact append_Jo (R := fun v w'' => Below B w' w'' ∧ hdR B vv X0 X1 X2 2 (upd us 8 v) w'') (.tmp 47) (.tmp 50) 26 rfl 5 i0 _ 1 Try.underlying26 T1.out T2.out T3.out T4.out rfl B _ X1 (eval_tmp vc) hR w'.heap.size _ 4 16 b4 (eval_tmp v7) (SB4.out w' hG) (by rw [L1.out]; decide) (by rw [L1.out]; decide) hB 20 (by rw [L1.out]) fun A' c' w'' _ _ O' B' => ⟨B', hdR.m2 (E2.out ▸ O')⟩
    · refine stepC_chain 2 rfl (by decide) [] (by kernel_rfl) (by decide) rfl fun us w' hB hG hV hR => ?_
      have vc := frame_at2 (us := us) hl (show (hdT[51]?).join = some 8 from rfl)
      generalize frame hdT a0 us = fr at *
      exact val_J (R := fun v w'' => Below B w' w'' ∧ hdR B vv X0 X1 X2 3 (upd us 9 v) w'') (v := us 8) (w' := w') (by go_simp) ⟨Below.refl _ _, hdR.m3 hR⟩
    · intro us w2 hB hG hV hR
      subst ha0
      simp only [frame, hdT, fill]
      have HR : Hid (Own .u8 5 w2 B (us 9) X2) := Lib.hid hR
      have HG := Lib.hid hG
      clear hV hR hG hl k2 k6
      generalize us 9 = v9 at *
      go_wp2_with fail
      go_ret
      exact ⟨_, rfl, HR.out.less HBw.out, HBB.out.trans (HG.out.mono HBw.out)⟩
end Go.Proofs.Ytmedccfekfnmlaa.pkC

/-
  Rows of parts that the call lays itself; what alive does; the walk of the second statement.
-/
namespace Go.Proofs.Ytmedccfekfnmlaa.chkC
open Go.ChangeShapes Go.WideShapes Go.ChangeAt Go.RowKit
open Go.Proofs.Ytmedccfekfnmlaa.memC Go.Proofs.Ytmedccfekfnmlaa.chkM
set_option linter.unusedVariables false
theorem bel_drewN {B : Nat} {a w : World} (h : Below B a w) (n : Nat) : Below B a (w.drewN n) := ⟨h.os, h.tape, h.output, h.size, h.block⟩
theorem alloc_below (w : World) (o : Obj) : Below w.heap.size w (w.alloc o) := (Below.refl _ _).alloc (Nat.le_refl _) _
theorem alloc_size (w : World) (o : Obj) : (w.alloc o).heap.size = w.heap.size + 1 := by simp
theorem PartAt.alloc {w : World} {p : Part} (h : PartAt w w.heap.size p) (o : Obj) : PartAt (w.alloc o) (w.alloc o).heap.size p := h.below (alloc_below w o) (alloc_below w o).size
theorem parts1 {w : World} {A : Option Addr} {n c : Nat} {bs : List Int} (h : PartAt w w.heap.size ⟨A, n, c, bs⟩) (T : TypeId) :
    Parts (w.alloc (.cells #[.slice A n c] T)) (w.alloc (.cells #[.slice A n c] T)).heap.size (some ⟨w.heap.size, 0, none⟩) [⟨A, n, c, bs⟩] := by
  refine ⟨fun _ => ⟨_, 0, rfl, by rw [alloc_size]; exact Nat.lt_succ_self _, fun i hi => ?_⟩, fun p hp => ?_⟩
  · obtain rfl : i = 0 := by simpa using hi
    simp [go_sem]
  · obtain rfl := List.mem_singleton.1 hp
    exact h.alloc _
theorem parts2 {w : World} {A A' : Option Addr} {n c n' c' : Nat} {bs bs' : List Int} (h : PartAt w w.heap.size ⟨A, n, c, bs⟩) (h' : PartAt w w.heap.size ⟨A', n', c', bs'⟩) (T : TypeId) :
    Parts (w.alloc (.cells #[.slice A n c, .slice A' n' c'] T)) (w.alloc (.cells #[.slice A n c, .slice A' n' c'] T)).heap.size (some ⟨w.heap.size, 0, none⟩) [⟨A, n, c, bs⟩, ⟨A', n', c', bs'⟩] := by
  refine ⟨fun _ => ⟨_, 0, rfl, by rw [alloc_size]; exact Nat.lt_succ_self _, fun i hi => ?_⟩, fun p hp => ?_⟩
  · simp only [List.length_cons, List.length_nil] at hi
    match i, hi with
    | 0, _ => simp [go_sem]
    | 1, _ => simp [go_sem]
  · rcases List.mem_cons.1 hp with rfl | hp
    · exact h.alloc _
    · obtain rfl := List.mem_singleton.1 hp
      exact h'.alloc _
end Go.Proofs.Ytmedccfekfnmlaa.chkC

/-
  A packet's bytes: the document's.
-/
namespace Go.Proofs.Ytmedccfekfnmlaa.pkC
open Go.ChangeShapes Go.WideShapes Go.ChangeAt Go.RowKit
open Go.Proofs.Ytmedccfekfnmlaa.memC Go.Proofs.Ytmedccfekfnmlaa.genC Go.Proofs.Ytmedccfekfnmlaa.butC Go.Proofs.Ytmedccfekfnmlaa.freeC Go.Proofs.Ytmedccfekfnmlaa.adC
set_option linter.unusedVariables false
theorem numL_byte (s : Nat) (x : Int) : ∀ y ∈ octC.numL s x, Byte y := by
  induction s with
  | zero => simp [octC.numL]
  | succ s ih =>
    intro y hy
    rcases List.mem_cons.1 hy with rfl | h
    · unfold octC.byteAt Byte; omega
    · exact ih y h
theorem headL_byte {p : Pkt} (h : p.Ok) (n : Nat) {ck : Int} (k0 : 0 ≤ ck) (k1 : ck ≤ 65535) : ∀ x ∈ headL p n ck, Byte x := by
  intro x hx
  unfold headL topL octC.putL at hx
  rcases List.mem_append.1 hx with hx | hx
  · rcases List.mem_append.1 hx with hx | hx
    · rcases List.mem_append.1 hx with hx | hx
      · rcases List.mem_append.1 hx with hx | hx
        · simp at hx; unfold Byte; omega
        · obtain ⟨y, _, hy⟩ := List.mem_flatMap.1 hx
          exact numL_byte 2 y x hy
      · have h1 := h.hops
        have h2 := h.proto
        unfold Byte at h1 h2 ⊢
        simp at hx
        rcases hx with rfl | rfl | rfl | rfl <;> omega
    · exact h.ya x (List.mem_of_mem_take hx)
  · exact h.yb x (List.mem_of_mem_take hx)
/-- a header's check sum -/
def ckL (p : Pkt) (n : Nat) : Int := 65535 - chkM.fo (chkM.wsum (headL p n 0))
theorem ckL_bd (p : Pkt) (n : Nat) : 0 ≤ ckL p n ∧ ckL p n ≤ 65535 := by unfold ckL; have := chkM.fo_bd (chkM.wsum (headL p n 0)); omega
/-- a packet's bytes, if it may be -/
def layL (p : Pkt) (n : Nat) (xs : List Int) : List Int := if mayB p n then headL p n (ckL p n) ++ xs else []
def layE (p : Pkt) (n : Nat) : Int := if mayB p n then 0 else 1
/-- the call's own bytes, and an error -/
def OwnE (w : World) (bs : List Int) (er : Int) (e : Ending) (w' : World) : Prop := ∃ A n c, e = .returned (.tuple #[.slice A n c, .int .i64 er]) ∧ Own .u8 5 w' w.heap.size (.slice A n c) bs ∧ Below w.heap.size w w'
/-- the bytes as they grow -/
def lyR (B : Nat) (H X : List Int) (n : Nat) : Nat → (Nat → Value) → World → Prop
  | 0, _, _ => True
  | 1, us, w => Own .u8 5 w B (us 2) H
  | 2, us, w => Own .u8 5 w B (us 5) X ∧ ∃ A c, us 5 = .slice A n c
  | 3, us, w => Own .u8 5 w B (us 6) X ∧ ∃ A c, us 6 = .slice A n c
  | _, _, _ => True
theorem lyR.keep (B : Nat) (H X : List Int) (n k : Nat) (us us' : Nat → Value) (w w' : World) (h : ∀ x ∈ [2, 5, 6], us' x = us x) (hB : B ≤ w.heap.size) (hb : Below w.heap.size w w') (hR : lyR B H X n k us w) : lyR B H X n k us' w' := by
  have h2 := h 2 (by simp); have h5 := h 5 (by simp); have h6 := h 6 (by simp)
  unfold lyR at hR ⊢
  split at hR
  · trivial
  · rw [h2]; exact hR.below hb
  · rw [h5]; exact ⟨hR.1.below hb, hR.2⟩
  · rw [h6]; exact ⟨hR.1.below hb, hR.2⟩
  · trivial
theorem lyR.m1 {B n : Nat} {v : Value} {H X : List Int} {us : Nat → Value} {w : World} (h : Own .u8 5 w B v H) : lyR B H X n 1 (upd us 2 v) w := by
  show Own .u8 5 w B (upd us 2 v 2) H
  rw [upd_same]; exact h
theorem lyR.m2 {B n : Nat} {A : Option Addr} {c : Nat} {H X : List Int} {us : Nat → Value} {w : World} (h : Own .u8 5 w B (.slice A n c) X) : lyR B H X n 2 (upd us 5 (.slice A n c)) w := by
  show Own .u8 5 w B (upd us 5 (.slice A n c) 5) X ∧ ∃ A' c', upd us 5 (.slice A n c) 5 = .slice A' n c'
  rw [upd_same]; exact ⟨h, _, _, rfl⟩
theorem lyR.m3 {B n : Nat} {v : Value} {H X : List Int} {us : Nat → Value} {w : World} (h : Own .u8 5 w B v X ∧ ∃ A c, v = .slice A n c) : lyR B H X n 3 (upd us 6 v) w := by
  show Own .u8 5 w B (upd us 6 v 6) X ∧ ∃ A' c', upd us 6 v 6 = .slice A' n c'
  rw [upd_same]; exact h
def lyV (g0 : Nat) (CP : Array Value) (ck : Int) (A : Option Addr) (n c : Nat) : Nat → Value → World → Prop
  | 0, v, _ => v = .agg CP
  | 1, v, _ => v = .int .u16 ck
  | 3, v, _ => v = .pointer (some ⟨g0, 40, none⟩)
  | 4, v, _ => v = .slice A n c
  | 7, v, _ => v = .int .i64 0
  | _, _, _ => True
theorem lyV.keep (g0 : Nat) (CP : Array Value) (ck : Int) (A : Option Addr) (n c : Nat) (i : Nat) (v : Value) (w w' : World) (h : lyV g0 CP ck A n c i v w) : lyV g0 CP ck A n c i v w' := by
  unfold lyV at h ⊢
  split at h <;> exact h
def lyT : List (Option Nat) := [none, none, some 6, some 7, none, none, none, none, none, none, none, none, none, some 0, some 1, some 2, some 3, some 4, some 5]
set_option maxRecDepth 100000 in
set_option maxHeartbeats 4000000 in
theorem rlay_any (p : Pkt) (A : Option Addr) (n c : Nat) (xs : List Int) (w : World) (hp : p.Ok) (hx : Nums .u8 w w.heap.size A n xs) (hn : n ≤ 9223372036854775807) :
    Calls Try.prog 10 #[.agg (pktV p A n c)] w (OwnE w (layL p n xs) (layE p n)) := by
  obtain ⟨W, hW⟩ : ∃ W, W = w.alloc (.cells (pktV p A n c) 28) := ⟨_, rfl⟩
  have R0 := Lib.hid (show W.heap[w.heap.size]? = some (.cells (pktV p A n c) 28 (0, 0)) by rw [hW]; exact heap_alloc_new w _)
  have HB := Lib.hid (show Below w.heap.size w W by rw [hW]; exact alloc_below _ _)
  have c0 := pkC hp A n c
  have UI := Lib.hid c0.info
  have KR := Lib.hid (fun (w' : World) (h : Below W.heap.size W w') => (show w'.heap[w.heap.size]? = some (.cells (pktV p A n c) 28 (0, 0)) by rw [h.block _ (lt_of_row R0.out)]; exact R0.out))
  have K40 := Lib.hid (fun w' h => PkC.cell (KR.out w' h) c0.load)
  have MC := Lib.hid (fun w' => rmay_pkt p A n c w' hp hn)
  have HWW := Lib.hid (Below.refl W.heap.size W)
  by_cases hm : mayB p n = true
  · obtain ⟨i0, hi0, hz0, hz1, hz2⟩ := info_parts byte_inf
    have T1 := Lib.hid hi0; have T2 := Lib.hid hz0; have T3 := Lib.hid hz1; have T4 := Lib.hid hz2
    have hn2 : n ≤ 65515 := by have := (mayB_parts hm).2.2.2.2.2.2.2.1; omega
    obtain ⟨q0, q1⟩ := ckL_bd p n
    have H0 := Lib.hid (fun w' => head_any p A n c 0 w' hp hm (by decide) (by decide))
    have HC := Lib.hid (fun w' => head_any p A n c (ckL p n) w' hp hm q0 q1)
    have hb0 := Lib.hid (headL_byte hp n (ck := 0) (by decide) (by decide))
    have hl0 := Lib.hid (headL_len hp n 0)
    have LH := Lib.hid (headL_len hp n (ckL p n))
    have ev : layL p n xs = headL p n (ckL p n) ++ xs := by unfold layL; rw [if_pos hm]
    have ee : layE p n = 0 := by unfold layE; rw [if_pos hm]
    have HX0 := Lib.hid (fun w' (h : Below W.heap.size W w') => (show Nums .u8 w' w'.heap.size A n xs from (hx.below (HB.out.trans (h.mono HB.out.size))).more (Nat.le_trans HB.out.size h.size)))
    rw [hm] at MC
    rw [ev, ee]
    obtain ⟨f, hf⟩ : ∃ f, f = chkM.fo (chkM.wsum (headL p n 0)) := ⟨_, rfl⟩
    have hck : ckL p n = 65535 - f := by unfold ckL; rw [hf]
    have HF := Lib.hid hf
    have hfb : 0 ≤ f ∧ f ≤ 65535 := by rw [hf]; exact chkM.fo_bd _
    obtain ⟨f0, f1⟩ := hfb
    have hbx := chkC.not16 f0 f1
    rw [← hck] at hbx
    have hbx := Lib.hid hbx
    generalize ckL p n = ck at *
    obtain ⟨X, hX⟩ : ∃ X, X = headL p n ck ++ xs := ⟨_, rfl⟩
    rw [← hX]
    have EX : Hid (headL p n ck ++ xs = X) := Lib.hid hX.symm
    generalize headL p n ck = H at *
    generalize headL p n 0 = H0L at *
    obtain ⟨N, hN⟩ : ∃ N, N = 20 + n := ⟨_, rfl⟩
    have HN : Hid (20 + n = N) := Lib.hid hN.symm
    have hn := Lib.hid hn2
    have Wp : ∃ CP, CP = pktV p A n c := ⟨_, rfl⟩
    obtain ⟨CP, hCP⟩ := Wp
    rw [← hCP] at R0 KR MC H0 HC UI hW ⊢
    clear hm hn2 hX hN hck hf c0 hx hi0 hz0 hz1 hz2 ev ee hp hCP
    go_enter Try.func10, Try.ntmps10
    go_upto_region 1 with fail
    rw [← hW]
    clear hW
    go_upto_region 3 with (first
      | (refine wpList_load_rowG (by kernel_rfl) 28 (.tmp 1) rfl w.heap.size (by kernel_rfl) _ _ _ _ (KR.out _ HWW.out) Try.underlying28 rfl UI.out ?_)
      | (go_at_call 12; (refine (MC.out _).mono ?_); rintro e w2 ⟨rfl, BB⟩
         have HW2 := Lib.hid BB
         clear BB))
    go_upto_region 4 with (first
      | (refine wpList_load_rowG (by kernel_rfl) 28 (.tmp 1) rfl w.heap.size (by kernel_rfl) _ _ _ _ (KR.out _ HW2.out) Try.underlying28 rfl UI.out ?_)
      | (go_at_call 23; (refine (H0.out _).mono ?_); rintro e w3 ⟨v3, rfl, O3, BB⟩
         obtain ⟨A3, c3, ev3, g1, g2, N3⟩ := O3.form
         rw [hl0.out] at ev3 N3
         subst ev3
         have HW3 := Lib.hid (HW2.out.trans (BB.mono HW2.out.size))
         have PP := Lib.hid (show chkC.PartAt w3 w3.heap.size ⟨A3, 20, c3, H0L⟩ from ⟨N3, (show 20 ≤ 10000 by decide), hb0.out⟩)
         have SC := Lib.hid ((chkC.sumref_any _ 1 1 _ (w3.alloc (.cells #[.slice A3 20 c3] 26)) (chkC.parts1 PP.out 26) (by decide) rfl).mono fun e w' h => (show e = .returned (.int .u16 f) ∧ w3.alloc (.cells #[.slice A3 20 c3] 26) = w' from ⟨by rw [h.1, HF.out]; simp [chkC.numsOf, chkM.psum], h.2⟩))
         have HW4 := Lib.hid (HW3.out.trans ((alloc_below w3 (.cells #[.slice A3 20 c3] 26)).mono HW3.out.size))
         clear BB O3 N3 g1 g2 PP)
      | (go_at_call 22; (refine (SC.out).mono ?_); rintro e w4 ⟨rfl, rfl⟩))
    rw [show bits .xor .u16 (if IntKind.u16.signed = true then -1 else IntKind.u16.max) f = ck from hbx.out]
    clear SC H0 MC HWW hbx HW3 HW2
    generalize w3.alloc (.cells #[.slice A3 20 c3] 26) = Wr at *
    obtain ⟨B, hB⟩ : ∃ B, B = Wr.heap.size := ⟨_, rfl⟩
    have hBe := Lib.hid hB
    have hWB := Lib.hid (show W.heap.size ≤ B by rw [hB]; exact HW4.out.size)
    have HBw := Lib.hid (show w.heap.size ≤ B from Nat.le_trans HB.out.size hWB.out)
    have HBB := Lib.hid (show Below w.heap.size w Wr from HB.out.trans (HW4.out.mono HB.out.size))
    have KR := Lib.hid (fun w' (h : Below B Wr w') => KR.out w' (HW4.out.trans (h.mono hWB.out)))
    have K40 := Lib.hid (fun w' (h : Below B Wr w') => K40.out w' (HW4.out.trans (h.mono hWB.out)))
    have HX := Lib.hid (fun w' (h : Below B Wr w') => HX0.out w' (HW4.out.trans (h.mono hWB.out)))
    clear hB HX0
    refine with_act fun a0 ha0 => ?_
    have hl : lyT.length = a0.tmps.size := by rw [ha0]; rfl
    have k1 : a0.tmps[1]?.getD undef = .pointer (some ⟨w.heap.size, 0, none⟩) := by rw [ha0]; rfl
    have k4 : a0.tmps[4]?.getD undef = .int .u16 ck := by rw [ha0]; rfl
    refine wp_region_chain (by kernel_rfl) lyT (by kernel_rfl) (by kernel_rfl) hl (fun i => if i = 6 then .slice none 0 0 else if i = 7 then .int .i64 0 else undef) (by rw [ha0]; rfl) (B) [2, 5, 6] (by kernel_rfl) (by decide) (by decide) (fun w' => Below B Wr w') (lyV w.heap.size CP ck A n c) (lyR B H X N) (Nat.le_of_eq hBe.out) ((Below.refl _ _).drew) trivial (fun w w' _ h1 h2 => h2.trans h1) (fun i v w w' _ _ h => lyV.keep _ _ _ _ _ _ i v w w' h) (lyR.keep _ _ _ _) ⟨?_, ?_, ?_, ?_, ?_, ?_, ?_, ?_, trivial⟩ ?_
    · refine stepC_val [] (by kernel_rfl) (by decide) (by decide) rfl fun us w' hB hG hV => ?_
      have o1 := (frame_old2 (us := us) (a := a0) (show (lyT[1]?).join = none from rfl)).trans k1
      have hg1 := KR.out w' hG
      generalize frame lyT a0 us = fr at *
      exact load_C 28 1 rfl (w.heap.size) o1 _ _ (0, 0) _ hg1 Try.underlying28 rfl UI.out rfl
    · refine stepC_val [] (by kernel_rfl) (by decide) (by decide) rfl fun us w' hB hG hV => ?_
      have o4 := (frame_old2 (us := us) (a := a0) (show (lyT[4]?).join = none from rfl)).trans k4
      generalize frame lyT a0 us = fr at *
      exact val_C (v := .int .u16 ck) (w' := w') (by go_simp) (Below.refl _ _) rfl
    · refine stepC_chain 0 rfl (by decide) [0, 1] (by kernel_rfl) (by decide) rfl fun us w' hB hG hV hR => ?_
      have e0 : us 0 = .agg CP := hV 0 (by simp)
      have v0 := (frame_at2 (us := us) hl (show (lyT[13]?).join = some 0 from rfl)).trans e0
      have e1 : us 1 = .int .u16 ck := hV 1 (by simp)
      have v1 := (frame_at2 (us := us) hl (show (lyT[14]?).join = some 1 from rfl)).trans e1
      generalize frame lyT a0 us = fr at *
      exact call_J (R := fun v w'' => Below B w' w'' ∧ lyR B H X N 1 (upd us 2 v) w'') (f := 23) (args := #[.agg CP, .int .u16 ck]) (by go_simp) ((HC.out w').mono fun e w'' ⟨v, he, O, b⟩ => ⟨v, he, b.mono hB, lyR.m1 (O.less hB)⟩)
    · refine stepC_val [] (by kernel_rfl) (by decide) (by decide) rfl fun us w' hB hG hV => ?_
      have o1 := (frame_old2 (us := us) (a := a0) (show (lyT[1]?).join = none from rfl)).trans k1
      generalize frame lyT a0 us = fr at *
      exact val_C (v := .pointer (some ⟨w.heap.size, 40, none⟩)) (w' := w') (by go_simp) (Below.refl _ _) rfl
    · refine stepC_val [3] (by kernel_rfl) (by decide) (by decide) rfl fun us w' hB hG hV => ?_
      have e3 : us 3 = .pointer (some ⟨w.heap.size, 40, none⟩) := hV 3 (by simp)
      have v3 := (frame_at2 (us := us) hl (show (lyT[16]?).join = some 3 from rfl)).trans e3
      have hc := K40.out w' hG
      generalize frame lyT a0 us = fr at *
      exact val_C (v := .slice A n c) (w' := w') (by go_simp) (Below.refl _ _) rfl
    · refine stepC_chain 1 rfl (by decide) [4] (by kernel_rfl) (by decide) rfl fun us w' hB hG hV hR => ?_
      have e4 : us 4 = .slice A n c := hV 4 (by simp)
      have v4 := (frame_at2 (us := us) hl (show (lyT[17]?).join = some 4 from rfl)).trans e4
      have vc := frame_at2 (us := us) hl (show (lyT[15]?).join = some 2 from rfl)
      generalize frame lyT a0 us = fr at *
      exact append_Jo (R := fun v w'' => Below B w' w'' ∧ lyR B H X N 2 (upd us 5 v) w'') (.tmp 15) (.tmp 17) 26 rfl 5 i0 _ 1 Try.underlying26 T1.out T2.out T3.out T4.out rfl B _ H (eval_tmp vc) hR w'.heap.size _ n c xs (eval_tmp v4) (HX.out w' hG) (by rw [LH.out]; have := hn.out; unfold maxLen; omega) (by rw [LH.out]; have := hn.out; omega) hB N (by rw [LH.out]; exact HN.out) fun A' c' w'' _ _ O' B' => ⟨B', lyR.m2 (EX.out ▸ O')⟩
    · refine stepC_chain 2 rfl (by decide) [] (by kernel_rfl) (by decide) rfl fun us w' hB hG hV hR => ?_
      have vc := frame_at2 (us := us) hl (show (lyT[18]?).join = some 5 from rfl)
      generalize frame lyT a0 us = fr at *
      exact val_J (R := fun v w'' => Below B w' w'' ∧ lyR B H X N 3 (upd us 6 v) w'') (v := us 5) (w' := w') (by go_simp) ⟨Below.refl _ _, lyR.m3 hR⟩
    · refine stepC_val [] (by kernel_rfl) (by decide) (by decide) rfl fun us w' hB hG hV => ?_
      generalize frame lyT a0 us = fr at *
      exact val_C (v := .int .i64 0) (w' := w') (by go_simp) (Below.refl _ _) rfl
    · intro us w2 hB hG hV hR
      have e7 : us 7 = .int .i64 0 := hV 7 (by decide) (by decide)
      obtain ⟨hR1, A', c', e6⟩ := (show Own .u8 5 w2 B (us 6) X ∧ ∃ A c, us 6 = .slice A N c from hR)
      rw [e6] at hR1
      subst ha0
      simp only [frame, lyT, fill]
      rw [e6, e7]
      have HR := Lib.hid hR1
      have HG := Lib.hid hG
      clear hV hR hR1 hG hl k1 k4 e6 e7
      go_wp2_with fail
      go_ret2
      exact ⟨A', N, c', rfl, HR.out.less HBw.out, HBB.out.trans (HG.out.mono HBw.out)⟩
  · have hm' : mayB p n = false := by cases h : mayB p n <;> simp_all
    have ev : layL p n xs = [] := by unfold layL; rw [hm']; rfl
    have ee : layE p n = 1 := by unfold layE; rw [hm']; rfl
    rw [ev, ee]
    rw [hm'] at MC
    generalize pktV p A n c = CP at *
    clear hm hm' ev ee c0 hx hp
    go_enter Try.func10, Try.ntmps10
    go_upto_region 1 with fail
    rw [← hW]
    clear hW
    go_wp2_with (first
      | (refine wpList_load_rowG (by kernel_rfl) 28 (.tmp 1) rfl w.heap.size (by kernel_rfl) _ _ _ _ (KR.out _ HWW.out) Try.underlying28 rfl UI.out ?_)
      | (go_at_call 12; (refine (MC.out _).mono ?_); rintro e w2 ⟨rfl, BB⟩
         have HW2 := Lib.hid BB
         clear BB))
    go_ret2
    exact ⟨none, 0, 0, rfl, Own.nil _ _, HB.out.trans (HW2.out.mono HB.out.size)⟩
end Go.Proofs.Ytmedccfekfnmlaa.pkC

/-
  The walk of the first statement.
-/
namespace Go.Proofs.Ytmedccfekfnmlaa.chkC
open Go.ChangeShapes Go.WideShapes Go.ChangeAt Go.RowKit
open Go.Proofs.Ytmedccfekfnmlaa.memC Go.Proofs.Ytmedccfekfnmlaa.chkM
set_option linter.unusedVariables false
theorem Parts.heap {w w' : World} {B : Nat} {P : Option Addr} {ps : List Part} (h : Parts w B P ps) (e : w'.heap = w.heap) : Parts w' B P ps :=
  ⟨fun hl => by
    obtain ⟨b, o, e1, hb, hc⟩ := h.at_ hl
    exact ⟨b, o, e1, hb, fun i hi => (World.cell?_of_block (w := w) (w' := w') (by rw [e])).trans (hc i hi)⟩, fun p hp => (h.all p hp).heap e⟩
end Go.Proofs.Ytmedccfekfnmlaa.chkC

/-
  The walk of the fourth statement.
-/
namespace Go.Proofs.Ytmedccfekfnmlaa.chkC
open Go.ChangeShapes Go.WideShapes Go.ChangeAt Go.RowKit
open Go.Proofs.Ytmedccfekfnmlaa.memC Go.Proofs.Ytmedccfekfnmlaa.chkM
set_option linter.unusedVariables false
theorem byte_info : (Try.prog.info? 5).map (fun i => (i.zero, i.size, i.bytes)) = some (some (.int .u8 0), 1, 1) := by kernel_rfl
/-- a number, and what was there stands -/
def NumRet (w : World) (f : Int) (e : Ending) (w' : World) : Prop := e = .returned (.int .u16 f) ∧ Below w.heap.size w w'
theorem sum2_on {w w0 : World} {A A' : Option Addr} {n c n' c' : Nat} {bs bs' : List Int} {f : Int} (B : Below w.heap.size w w0) (h : PartAt w0 w0.heap.size ⟨A, n, c, bs⟩) (h' : PartAt w0 w0.heap.size ⟨A', n', c', bs'⟩) (hf : fo (wsum bs + wsum bs') = f) :
    Calls Try.prog 38 #[.slice (some ⟨w0.heap.size, 0, none⟩) 2 2] (w0.alloc (.cells #[.slice A n c, .slice A' n' c'] 26)) (NumRet w f) :=
  (sum_any _ 2 2 _ _ (parts2 h h' 26) (by decide) rfl).mono fun e w' ⟨he, j, hw⟩ =>
    ⟨by rw [he]; exact ret_int (by rw [← hf]; exact congrArg fo (by simp [numsOf, psum])), by rw [hw]; exact bel_drewN (B.trans ((alloc_below w0 _).mono B.size)) j⟩
end Go.Proofs.Ytmedccfekfnmlaa.chkC

/-
  What slices.Grow of nothing, and slices.Concat of some slices of bytes, do.
-/
namespace Go.Proofs.Ytmedccfekfnmlaa.chkC
open Go.ChangeShapes Go.WideShapes Go.ChangeAt Go.RowKit
open Go.Proofs.Ytmedccfekfnmlaa.memC Go.Proofs.Ytmedccfekfnmlaa.chkM
set_option linter.unusedVariables false
def GrowRet (w : World) (n : Nat) (e : Ending) (w' : World) : Prop :=
  ∃ c, e = .returned (.slice (some ⟨w.heap.size, 0, none⟩) 0 c) ∧ n ≤ c ∧ c ≤ maxLen ∧ Own .u8 5 w' w.heap.size (.slice (some ⟨w.heap.size, 0, none⟩) 0 c) [] ∧ Below w.heap.size w w'
theorem grow_any (n : Nat) (w : World) (h0 : 0 < n) (h1 : n ≤ 1000000) :
    Calls Try.prog 36 #[.slice none 0 0, .int .i64 n] w (GrowRet w n) := by
  obtain ⟨i0, hi0, hz0, hz1, hz2⟩ := info_parts byte_info
  have R := Go.Lib.run_append_nil_zeros (P := Try.prog) w 26 3 26 5 i0 (.int .u8 0) .i64 .i64 Try.underlying26 Try.underlying3 hi0 hz0 n h0 (by omega) (by omega) (by rw [hz2]; omega)
  have hge : n ≤ grownCap w n 0 5 := grownCap_ge w _ 0 _
  have hle : grownCap w n 0 5 ≤ maxLen := grownCap_le_maxLen w _ 0 _ (by unfold maxLen; omega)
  obtain ⟨c, hc⟩ : ∃ c, c = grownCap w n 0 5 := ⟨_, rfl⟩
  rw [← hc] at R hge hle
  obtain ⟨Z, hZ⟩ : ∃ Z, Z = (Builtin.zeroCells (Value.int .u8 0).cells n ++ Builtin.zeroCells (Value.int .u8 0).cells (c - n)) := ⟨_, rfl⟩
  rw [← hZ] at R
  have hZs : Z.size = c := by rw [hZ]; simp [size_zeroCells, Value.cells]; omega
  have O : Own .u8 5 (w.drew.alloc (.cells Z 5)) w.heap.size (.slice (some ⟨w.heap.size, 0, none⟩) 0 c) [] :=
    World.ownsRow_made w.drew Z c (Nat.le_refl _) hle (by rw [hZs]; omega)
  have B : Below w.heap.size w (w.drew.alloc (.cells Z 5)) := (Below.refl _ _).drew.alloc (Nat.le_refl _) _
  have RH := Lib.hid R
  have hn : (0 : Int) < n := by omega
  clear hc hZ R hi0 hz0 hz1 hz2 hZs
  go_enter Try.func36, Try.ntmps36
  go_wp2_with (at_builtin; refine Go.Lib.wpList_append_run _ rfl _ _ _ _ rfl _ _ rfl rfl _ _ RH.out ?_)
  go_ret
  exact ⟨c, rfl, hge, hle, O, B⟩
/-- how many bytes the slices have -/
def nsum : List Part → Nat
  | [] => 0
  | p :: r => p.n + nsum r
theorem nsum_append : ∀ (a b : List Part), nsum (a ++ b) = nsum a + nsum b
  | [], b => by simp [nsum]
  | p :: r, b => by simp only [List.cons_append, nsum, nsum_append r b]; omega
theorem nsum_snoc (ps : List Part) (k : Nat) (h : k < ps.length) : nsum (ps.take (k + 1)) = nsum (ps.take k) + ps[k].n := by
  rw [List.take_succ_eq_append_getElem h, nsum_append]; simp [nsum]
theorem nsum_take (ps : List Part) (k : Nat) : nsum (ps.take k) ≤ nsum ps := by
  have h := nsum_append (ps.take k) (ps.drop k)
  rw [List.take_append_drop] at h
  omega
/-- all their bytes -/
def catL (ps : List Part) : List Int := ps.flatMap Part.bs
theorem catL_snoc (ps : List Part) (k : Nat) (h : k < ps.length) : catL (ps.take (k + 1)) = catL (ps.take k) ++ ps[k].bs := by
  rw [List.take_succ_eq_append_getElem h, catL, List.flatMap_append]; simp [catL]
theorem catL_len {w : World} {B : Nat} : ∀ (ps : List Part), (∀ p ∈ ps, PartAt w B p) → (catL ps).length = nsum ps
  | [], _ => rfl
  | p :: r, h => by
    have h1 := (h p (by simp)).nums.len
    have h2 := catL_len r fun q hq => h q (by simp [hq])
    show (p.bs ++ catL r).length = _
    rw [List.length_append, h1, h2]; rfl
def CatRet (w : World) (T : List Int) (n : Nat) (e : Ending) (w' : World) : Prop :=
  ∃ A c, e = .returned (.slice A n c) ∧ n ≤ c ∧ c ≤ maxLen ∧ Own .u8 5 w' w.heap.size (.slice A n c) T ∧ Below w.heap.size w w'
def CatR (w wr : World) (ps : List Part) (k : Nat) (v : Value) : Prop := Own .u8 5 wr w.heap.size v (catL (ps.take k)) ∧ Below w.heap.size w wr
set_option maxRecDepth 100000 in
set_option maxHeartbeats 1000000 in
theorem concat_any (P : Option Addr) (m c n : Nat) (ps : List Part) (w : World) (hp : Parts w w.heap.size P ps) (hm : m ≤ 100) (hl : ps.length = m) (hn : nsum ps = n) (h0 : 0 < n) (h1 : n ≤ 1000000) :
    Calls Try.prog 19 #[.slice P m c] w (CatRet w (catL ps) n) := by
  have HP := Lib.hid hp
  have HL := Lib.hid hl
  have HN := Lib.hid hn
  have CL := Lib.hid (catL_len ps hp.all)
  obtain ⟨i0, hi0, hz0, hz1, hz2⟩ := info_parts byte_info
  have T1 := Lib.hid hi0; have T2 := Lib.hid hz0; have T3 := Lib.hid hz1; have T4 := Lib.hid hz2
  have hG := Lib.hid (grow_any n w h0 h1)
  clear hp hl hn hi0 hz0 hz1 hz2
  go_enter Try.func19, Try.ntmps19
  go_wp2_with fail
  go_loop [3, 11] (fun t i => ∃ k : Nat, k ≤ m ∧ i = .int .i64 k ∧ t = .int .i64 (nsum (ps.take k) : Nat)) (fun _ i => m - (intOf i).toNat)
  case atStart => exact ⟨0, Nat.zero_le _, rfl, rfl⟩
  case round =>
    obtain ⟨k, hk, rfl, rfl⟩ := hrel
    have hts := nsum_take ps k
    rw [HN.out] at hts
    by_cases hlt : k < m
    · obtain ⟨b, o, rfl, hbb, hcell, hpart⟩ := HP.out.cell (i := k) (by rw [HL.out]; exact hlt)
      have hkl : k < ps.length := by rw [HL.out]; exact hlt
      have HT := Lib.hid (nsum_snoc ps k hkl)
      generalize ps[k] = p at *
      obtain ⟨A, q, c', bs⟩ := p
      have hq := hpart.few
      simp only at hcell HT hq
      generalize nsum (ps.take k) = s at *
      go_wp2_with fail
      go_round
      case rel => exact ⟨k + 1, by omega, by go_num, by rw [HT.out]; go_num⟩
      case measure => simp [intOf]; omega
    · have e : k = m := by omega
      subst e
      have e2 : ps.take k = ps := List.take_of_length_le (by rw [HL.out]; omega)
      rw [e2, HN.out]
      clear hts e2
      go_wp2_with (go_at_call 36; ((with_reducible refine hG.out.mono ?_); rintro e w1 ⟨c1, rfl, g1, g2, O1, B1⟩))
      go_loopw [6, 27] (fun v i wr => ∃ j : Nat, j ≤ k ∧ i = .int .i64 j ∧ CatR w wr ps j v) (fun _ i _ => k - (intOf i).toNat)
      case atStart => exact ⟨0, Nat.zero_le _, rfl, O1, B1⟩
      case round =>
        obtain ⟨j, hj, rfl, O, Bw⟩ := hrel
        by_cases hlt : j < k
        · obtain ⟨b, o, rfl, hbb, hcell, hpart⟩ := HP.out.cell (i := j) (by rw [HL.out]; exact hlt)
          have hkl : j < ps.length := by rw [HL.out]; exact hlt
          have HT := Lib.hid (catL_snoc ps j hkl)
          have HS := Lib.hid (nsum_snoc ps j hkl)
          have hle := nsum_take ps (j + 1)
          have LC := Lib.hid (catL_len (ps.take j) (fun p hp => HP.out.all p (List.mem_of_mem_take hp)))
          rw [HS.out, HN.out] at hle
          generalize ps[j] = p at *
          obtain ⟨A, q, c', bs⟩ := p
          have hq := hpart.few
          simp only at hcell HT hq HS hle
          have cc : wr.cell? ⟨b, o + j, none⟩ = some (.slice A q c') := (Bw.cell (p := ⟨b, o + j, none⟩) hbb).trans hcell
          have NB := hpart.nums.below Bw
          simp only at NB
          clear hcell
          go_wp2_with (first
            | (at_builtin; (refine wpList_app _ rfl (.tmp 31) (.tmp 32) _ rfl 5 i0 _ 1 Try.underlying26 T1.out T2.out T3.out T4.out rfl w.heap.size _ (catL (ps.take j)) rfl O w.heap.size A q c' bs rfl NB (by rw [LC.out]; simp only [maxLen]; omega) (by rw [LC.out]; omega) Bw.size ?_)
               intro v' w' O' hg'
               have Bn : Below w.heap.size w w' := Below.grown Bw hg' Bw.size fun g hg => (O.blk g hg).1
               clear hg'))
          go_roundw
          case rel => exact ⟨j + 1, by omega, by go_num, by rw [CatR, HT.out]; exact ⟨O', Bn⟩⟩
          case measure => simp [intOf]; omega
        · have e : j = k := by omega
          subst e
          have e2 : ps.take j = ps := List.take_of_length_le (by rw [HL.out]; omega)
          rw [e2] at O
          obtain ⟨A', c', ev, h1', h2', N⟩ := O.form
          rw [CL.out, HN.out] at ev h1'
          subst ev
          clear e2 N
          go_wp2_with fail
          go_ret
          exact ⟨A', c', rfl, h1', h2', O, Bw⟩
end Go.Proofs.Ytmedccfekfnmlaa.chkC

/-
  What Load and Good do.
-/
namespace Go.Proofs.Ytmedccfekfnmlaa.chkC
open Go.ChangeShapes Go.WideShapes Go.ChangeAt Go.RowKit
open Go.Proofs.Ytmedccfekfnmlaa.memC Go.Proofs.Ytmedccfekfnmlaa.chkM
set_option linter.unusedVariables false
theorem check2_on {w w0 : World} {A A' : Option Addr} {n c n' c' : Nat} {bs bs' : List Int} {f : Int} (B : Below w.heap.size w w0) (h : PartAt w0 w0.heap.size ⟨A, n, c, bs⟩) (h' : PartAt w0 w0.heap.size ⟨A', n', c', bs'⟩) (hf : 65535 - fo (wsum bs + wsum bs') = f) :
    Calls Try.prog 21 #[.slice (some ⟨w0.heap.size, 0, none⟩) 2 2] (w0.alloc (.cells #[.slice A n c, .slice A' n' c'] 26)) (NumRet w f) :=
  (check_any _ 2 2 _ _ (parts2 h h' 26) (by decide) rfl).mono fun e w' ⟨he, j, hw⟩ =>
    ⟨by rw [he]; exact ret_int (by rw [← hf]; simp [ckZ, numsOf, psum]), by rw [hw]; exact bel_drewN (B.trans ((alloc_below w0 _).mono B.size)) j⟩
end Go.Proofs.Ytmedccfekfnmlaa.chkC

/-
  The walk of the third statement: short loads.
-/
namespace Go.Proofs.Ytmedccfekfnmlaa.chkC
open Go.ChangeShapes Go.WideShapes Go.ChangeAt Go.RowKit
open Go.Proofs.Ytmedccfekfnmlaa.memC Go.Proofs.Ytmedccfekfnmlaa.chkM
set_option linter.unusedVariables false
theorem good_sum {S f : Int} (hS : 0 ≤ S) (hf : f = 65535 - fo S) : fo (S + f) = 65535 := by
  subst hf; unfold fo; (repeat' split) <;> omega
theorem pow8 {j : Nat} (hj : j < 8) : (2 : Int) ^ j = 1 ∨ (2 : Int) ^ j = 2 ∨ (2 : Int) ^ j = 4 ∨ (2 : Int) ^ j = 8 ∨ (2 : Int) ^ j = 16 ∨ (2 : Int) ^ j = 32 ∨ (2 : Int) ^ j = 64 ∨ (2 : Int) ^ j = 128 := by
  match j, hj with
  | 0, _ => simp
  | 1, _ => simp
  | 2, _ => simp
  | 3, _ => simp
  | 4, _ => simp
  | 5, _ => simp
  | 6, _ => simp
  | 7, _ => simp
theorem flip_sum {S b d : Int} {i : Nat} (hS : fo S = 65535) (hb : b = 1 ∨ b = 2 ∨ b = 4 ∨ b = 8 ∨ b = 16 ∨ b = 32 ∨ b = 64 ∨ b = 128) (hd : d = b ∨ d = -b) : fo (S + d * wt i) ≠ 65535 := by
  rw [Ne, fo_full]
  rw [fo_full] at hS
  unfold wt
  rcases hb with rfl | rfl | rfl | rfl | rfl | rfl | rfl | rfl <;> rcases hd with rfl | rfl <;> split <;> omega
theorem xor_nat : ∀ j : Fin 8, ∀ y : Fin 256, ((y.val ^^^ (2 ^ j.val)) = y.val + 2 ^ j.val ∨ (y.val ^^^ (2 ^ j.val)) + 2 ^ j.val = y.val) ∧ (y.val ^^^ (2 ^ j.val)) < 256 := by decide +kernel
theorem flip_bit {y : Int} {j : Nat} (y0 : 0 ≤ y) (y1 : y ≤ 255) (hj : j < 8) :
    (bits .xor .u8 y (2 ^ j) - y = 2 ^ j ∨ bits .xor .u8 y (2 ^ j) - y = -(2 ^ j)) ∧ Byte (bits .xor .u8 y (2 ^ j)) := by
  have hp := pow8 hj
  rw [Go.u8_xor _ _ y0 (by omega) (by omega) (by omega)]
  have h := xor_nat ⟨j, hj⟩ ⟨y.toNat, by omega⟩
  simp only at h
  have e : ((2 : Int) ^ j).toNat = 2 ^ j := by rw [← Int.toNat_natCast (2 ^ j)]; congr 1
  have e2 : ((2 ^ j : Nat) : Int) = (2 : Int) ^ j := by simp
  rw [e]
  unfold Byte
  omega
end Go.Proofs.Ytmedccfekfnmlaa.chkC
